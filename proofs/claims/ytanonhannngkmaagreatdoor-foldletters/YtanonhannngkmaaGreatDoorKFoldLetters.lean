/-
  The law FoldLetters: every call of it returns true, from a world that holds the tables.
-/
import Derived.Test.YtanonhannngkmaaGreatDoorBsA
namespace Go.Proofs.YtanonhannngkmaaGreatDoor
open Go Go.RowKit
namespace Fld
def extra : List (List UInt8) := [[195, 159], [45], [195, 177]]
/-- what a number adds -/
def item (c : Nat) : List (List UInt8) := (bif Nat.beq (c % 5) 4 then extra else []) ++ [greats.getD (c % 53) []]
def items : List UInt8 → List (List UInt8)
  | [] => []
  | b :: l => item b.toNat ++ items l
theorem items_app : ∀ (a b : List UInt8), items (a ++ b) = items a ++ items b
  | [], b => rfl
  | x :: a, b => by
    rw [List.cons_append, items, items, items_app a b, List.append_assoc]
theorem great_at {k : Nat} (h : k < 53) : greats[k]? = some (greats.getD k []) ∧ smalls[k]? = some (lowB (greats.getD k [])) ∧ Vr (greats.getD k []) ∧ (greats.getD k []).length ≤ 2 := by
  have hlen : gs.length = 53 := by kernel_rfl
  have hp : gs[k]? = some (gs[k]'(by omega)) := List.getElem?_eq_getElem _
  generalize gs[k]'(by omega) = p at hp
  obtain ⟨h1, h2, h3, h4, h5, h6⟩ := gs_of (List.mem_of_getElem? hp)
  have e1 : greats[k]? = some (enc p.1) := by unfold greats; rw [List.getElem?_map, hp]; rfl
  have e2 : greats.getD k [] = enc p.1 := by rw [List.getD_eq_getElem?_getD, e1]; rfl
  rw [e2]
  refine ⟨e1, ?_, h1, ?_⟩
  · unfold smalls lowB
    rw [List.getElem?_map, hp, h3, h5]
    rfl
  · rw [enc_len]
    cases Nat.blt p.1 128
    · exact Nat.le_refl 2
    · exact Nat.le_succ 1
theorem extra_vr : ∀ x ∈ extra, Vr x := fun x hx => by
  have : (extra.all okR) = true := by kernel_rfl
  exact okR_vr (List.all_eq_true.1 this x hx)
theorem extra_low : lows extra = List.flatten extra := by kernel_rfl
theorem item_vr (c : Nat) : ∀ x ∈ item c, Vr x := fun x hx => by
  unfold item at hx
  rcases List.mem_append.1 hx with h | h
  · cases hb : Nat.beq (c % 5) 4 with
    | true => rw [hb] at h; exact extra_vr x h
    | false => rw [hb] at h; cases h
  · rw [List.mem_singleton.1 h]
    exact (great_at (Nat.mod_lt _ (by omega))).2.2.1
theorem items_vr : ∀ l : List UInt8, ∀ x ∈ items l, Vr x
  | [], x, hx => by cases hx
  | b :: l, x, hx => (List.mem_append.1 hx).elim (item_vr b.toNat x) (items_vr l x)
theorem item_len (c : Nat) : (List.flatten (item c)).length ≤ 7 := by
  unfold item
  rw [List.flatten_append, List.length_append]
  have h1 := (great_at (Nat.mod_lt c (show 53 > 0 by omega))).2.2.2
  have h2 : (List.flatten [greats.getD (c % 53) []]).length = (greats.getD (c % 53) []).length := by simp
  have h3 : (List.flatten (bif Nat.beq (c % 5) 4 then extra else [])).length ≤ 5 := by
    cases Nat.beq (c % 5) 4
    · exact Nat.zero_le _
    · exact Nat.le_refl 5
  omega
theorem items_len : ∀ l : List UInt8, (List.flatten (items l)).length ≤ 7 * l.length
  | [] => Nat.zero_le _
  | b :: l => by
    have h1 := item_len b.toNat
    have h2 := items_len l
    rw [items, List.flatten_append, List.length_append, List.length_cons]
    omega
end Fld
noncomputable def flB : Code := inLoop (loopOf Tryz.prog 5 0)
def flM : RW := ⟨66, [(65, .own (strs Fld.smalls) 9 1), (64, .own (strs Fld.greats) 9 1)]⟩
def flS : St := ⟨fr 65 [(3, .slice (some ⟨64, 0, none⟩) 53 big), (5, .slice (some ⟨65, 0, none⟩) 53 big), (7, Lt 1), (8, Lt 2), (25, Lt 0), (26, Lt 3), (27, Lt 4)], flM, []⟩
def flE : St := ⟨fr 65 [(7, Lt 1), (8, Lt 2)], ⟨66, []⟩, []⟩
noncomputable def flC : CE := ⟨.loop flB, traL [(.string ⟨#[]⟩, Lt 1), (.string ⟨#[]⟩, Lt 2), (.int .i64 0, Lt 4), (Lt 0, Lt 0), (Lt 3, Lt 3)] [] [], 66, [], flS, .exit 0, flE⟩
def flX : Value := .string ⟨⟨[195, 159, 45, 195, 177]⟩⟩
/-- the letters: 1 and 2 what is so far, 3 how many, 4 which, 5 its place, 6 the number, 7 as an int, 8 which letter, 9 its fifths, 10 and 11 with the others, 12 and 13 the letters, 14 and 15 what is then, 16 the next one -/
def flO (z : Bool) : List OE := [binE .lss (Lt 4) (Lt 3) (.bool true), iaE 22 (Lt 0) (Lt 4) (Lt 5), ldE 5 (Lt 5) (Lt 6), cvE 5 3 (Lt 6) (Lt 7), binE .rem (Lt 7) (.int .i64 (53 : Nat)) (Lt 8), binE .rem (Lt 6) (.int .u8 (5 : Nat)) (Lt 9), binE .eql (Lt 9) (.int .u8 (4 : Nat)) (.bool z),
  binT .add 9 9 (Lt 1) flX (Lt 10), binT .add 9 9 (Lt 2) flX (Lt 11), iaO 28 64 53 (Lt 8) 0, iaO 28 65 53 (Lt 8) 0,
  binT .add 9 9 (bif z then Lt 10 else Lt 1) (Lt 12) (Lt 14), binT .add 9 9 (bif z then Lt 11 else Lt 2) (Lt 13) (Lt 15), binE .add (Lt 4) (.int .i64 (1 : Nat)) (Lt 16)]
def flMe : List ME := [ldO 9 0 Fld.greats (Lt 12), ldO 9 0 Fld.smalls (Lt 13)]
def flN : Tra := traL [(Lt 14, Lt 1), (Lt 15, Lt 2), (Lt 16, Lt 4), (Lt 0, Lt 0), (Lt 3, Lt 3)] [] []
noncomputable def flRun (O : List OE) (M : List ME) (y : Exit) (T : Tra) (s' : St) : Bool := @comes (orcG 64 64 O M []) Tryz.prog (prL []) 64 64 120 flB flS y T 66 [] s'
theorem fl_on (z : Bool) : flRun (flO z) flMe .normal flN flS = true := by cases z <;> kernel_rfl
theorem fl_end : flRun [binE .lss (Lt 4) (Lt 3) (.bool false)] [] (.exit 0) (traL [(Lt 1, Lt 1), (Lt 2, Lt 2)] [] []) flE = true := by kernel_rfl
def flP : List PE := [(7, fixP (.bool true))]
def flQ : List PE := [(10, patP [([Lt 1], Lt 2)]), (8, patP [([Lt 1], .int .i64 (-1))])]
def flL (b : Bool) : List OE := [lenE 22 (Lt 0) (Lt 3), binE .gtr (Lt 3) (.int .i64 (60 : Nat)) (.bool b), binT .eql 9 9 (Lt 2) (Lt 2) (.bool true)]
theorem fl_run0 : SymP (flL true) [] [] (prL flP) 120 5 [Lt 0] (.bool true) := by delta SymP; show _ = _; kernel_rfl
theorem fl_run1 : SymP (flL false) [] [flC] (lsPr (prL (flP ++ flQ))) 120 5 [Lt 0] (.bool true) := by delta SymP; show _ = _; kernel_rfl
theorem cv_byte [Ltr] {i j n : Nat} (hn : n < 256) (hi : Ltr.v i = some (.int .u8 n)) (hj : Ltr.v j = some (.int .i64 n)) : OEOk Tryz.prog (cvE 5 3 (Lt i) (Lt j)) :=
  cvE_ok fun o ρ a E w ho ha => by
    have e1 := is_ltr hi E _ ha
    refine ⟨.int .i64 n, ?_, .ltr hj rfl⟩
    have h : IntKind.i64.wrap (n : Int) = n := IntWalk.i64_in _ (by omega)
    simp only [execOp, ho, e1]
    go_simp
theorem a_byte [Ltr] {i j k n c d : Nat} {A : Addr} (hi : Ltr.v i = some (.slice (some A) n c)) (hk : Ltr.v k = some (.int .i64 d)) (hj : Ltr.v j = some (.pointer (some (A.add d)))) (h : d < n) : OEOk Tryz.prog (iaE 22 (Lt i) (Lt k) (Lt j)) :=
  iaE_ok fun o ρ a b E w ho ha hb => by
    have e1 := is_ltr hi E _ ha
    have e2 := is_ltr hk E _ hb
    refine ⟨.pointer (some (A.add d)), ?_, .ltr hj rfl⟩
    simp only [execOp, ho, e1]
    go_simp
abbrev flLt (A : Option Addr) (bs : List UInt8) (c j : Nat) : Ltr :=
  let s := List.flatten (Fld.items (bs.take j)); let v := Fld.lows (Fld.items (bs.take j)); let b := (bs.getD j 0).toNat; let x := Fld.greats.getD (b % 53) []
  ⟨fun i => [.slice A bs.length c, .string ⟨⟨s⟩⟩, .string ⟨⟨v⟩⟩, .int .i64 bs.length, .int .i64 j, .pointer (some (elOf (.slice A bs.length c) j)), .int .u8 b, .int .i64 b, .int .i64 (b % 53 : Nat), .int .u8 (b % 5 : Nat), .string ⟨⟨s ++ [195, 159, 45, 195, 177]⟩⟩, .string ⟨⟨v ++ [195, 159, 45, 195, 177]⟩⟩, .string ⟨⟨x⟩⟩, .string ⟨⟨Fld.lowB x⟩⟩,
      .string ⟨⟨List.flatten (Fld.items (bs.take (j + 1)))⟩⟩, .string ⟨⟨Fld.lows (Fld.items (bs.take (j + 1)))⟩⟩, .int .i64 (j + 1 : Nat)][i]?, fun _ _ => False, fun _ _ _ => False, fun _ _ _ _ => False, fun _ o => o = b % 53, fun _ => 0⟩
abbrev flLo (A : Option Addr) (bs : List UInt8) (c : Nat) : Ltr := ltrL [.slice A bs.length c, .string ⟨⟨List.flatten (Fld.items bs)⟩⟩, .string ⟨⟨Fld.lows (Fld.items bs)⟩⟩, .int .i64 bs.length]
theorem fl_ce (A : Option Addr) (bs : List UInt8) (c : Nat) (hn : bs.length ≤ 60) (w : World) (hB : BytesAt w A bs) : @CEOk (flLo A bs c) Tryz.prog 64 (kep w) 64 flC := by
  refine @ce_of Tryz.prog 64 (kep w) 64 (flLo A bs c) Nat (fun j => flLt A bs c j) (fun _ => flS) (fun j => bs.length - j) (fun j => j ≤ bs.length) flC flB rfl ?_ 0 (Nat.zero_le _) rfl (traL_ok (ac (fl_go rfl rfl rfl) (ac (fl_go rfl rfl rfl) (ac (fl_go rfl rfl rfl) (ac (lt_go rfl) (ac (lt_go rfl) an))))) an an) an
  rintro j hj ro k E a w' h
  have hj : j ≤ bs.length := hj
  let L : Ltr := flLt A bs c j
  by_cases hlt : j < bs.length
  · have hbj : bs[j]? = some (bs.getD j 0) := by rw [List.getD_eq_getElem?_getD, List.getElem?_eq_getElem hlt]; rfl
    obtain ⟨ad, hA, hcell⟩ := hB j _ hbj
    have h0 : L.v 0 = some (.slice (some ad) bs.length c) := by show some (Value.slice A bs.length c) = _; rw [hA]
    have h5 : L.v 5 = some (.pointer (some (ad.add j))) := by show some (Value.pointer (some (elOf (.slice A bs.length c) j))) = _; rw [hA]; rfl
    let b : Nat := (bs.getD j 0).toNat
    have hb256 : b < 256 := UInt8.toNat_lt _
    have hk53 : b % 53 < 53 := Nat.mod_lt _ (by omega)
    obtain ⟨g1, g2, g3, g4⟩ := Fld.great_at hk53
    have hit : Fld.items (bs.take (j + 1)) = Fld.items (bs.take j) ++ Fld.item b := by
      have ht : bs.take (j + 1) = bs.take j ++ [bs.getD j 0] := by rw [List.take_add_one, hbj]; rfl
      rw [ht, Fld.items_app]
      show _ ++ (Fld.item b ++ []) = _
      rw [List.append_nil]
    have hl1 := Fld.items_len (bs.take j)
    have hl2 : (bs.take j).length ≤ 60 := by rw [List.length_take]; omega
    have hl3 := Fld.lows_len (Fld.items_vr (bs.take j))
    have hl4 := Fld.lowB_len g3
    have hg4 : (Fld.greats.getD ((bs.getD j 0).toNat % 53) []).length ≤ 2 := g4
    have hg5 : (Fld.lowB (Fld.greats.getD ((bs.getD j 0).toNat % 53) [])).length ≤ 2 := by rw [hl4]; exact g4
    have hx5 : ([195, 159, 45, 195, 177] : List UInt8).length = 5 := rfl
    have hs : List.flatten (Fld.items (bs.take (j + 1))) = (List.flatten (Fld.items (bs.take j)) ++ (bif Nat.beq (b % 5) 4 then [195, 159, 45, 195, 177] else [])) ++ Fld.greats.getD (b % 53) [] := by
      rw [hit, List.flatten_append]
      unfold Fld.item
      rw [List.flatten_append, ← List.append_assoc]
      congr 1
      · cases Nat.beq (b % 5) 4 <;> rfl
      · simp
    have hv : Fld.lows (Fld.items (bs.take (j + 1))) = (Fld.lows (Fld.items (bs.take j)) ++ (bif Nat.beq (b % 5) 4 then [195, 159, 45, 195, 177] else [])) ++ Fld.lowB (Fld.greats.getD (b % 53) []) := by
      rw [hit, Fld.lows_app]
      unfold Fld.item
      rw [Fld.lows_app, ← List.append_assoc]
      congr 1
      · cases Nat.beq (b % 5) 4
        · rfl
        · show _ ++ Fld.lows Fld.extra = _
          rw [Fld.extra_low]
          rfl
      · show Fld.lowB _ ++ [] = _
        rw [List.append_nil]
    have be : Nat.beq (b % 5) 4 = decide (b % 5 = 4) := by rw [Bool.eq_iff_iff]; simp
    have hO : ∀ e ∈ flO (Nat.beq (b % 5) 4), @OEOkX L Tryz.prog (kep w) e := by
      refine ac (@bll L _ _ _ _ _ _ _ rfl rfl (xk_lt (decide_eq_true hlt)) (@to_flat L _ rfl)).x (ac (@a_byte L 0 5 4 _ _ _ _ h0 rfl h5 hlt).x (ac (@ld_ok L (kep w) _ 5 _ (.int .u8 b) (Lt 6) sv_a8 h5 (@to_ltr L 6 _ rfl rfl) fun w2 k => cell_keep hcell k) (ac (@cv_byte L 6 7 b hb256 rfl rfl).x (ac (@bl L _ _ _ _ _ _ rfl rfl (x_rem (n := b) (m := 53) (by omega)) (@to_ltr L 8 _ rfl rfl)).x (ac (@bl L _ _ _ _ _ _ rfl rfl (xk_rem (k := .u8) (n := b) (m := 5) (by omega)) (@to_ltr L 9 _ rfl rfl)).x (ac (@bl L _ _ _ _ _ _ rfl rfl (xk_eq (k := .u8) (n := b % 5) (m := 4) be.symm) (@to_flat L _ rfl)).x
        (ac (@s_add L _ _ 10 _ _ _ (@is_ltr L 1 _ rfl) (@is_flat L _ rfl) rfl rfl (by omega)).x (ac (@s_add L _ _ 11 _ _ _ (@is_ltr L 2 _ rfl) (@is_flat L _ rfl) rfl rfl (by omega)).x (ac (@iaO_ok L 28 9 64 53 0 (b % 53) (Lt 8) Tryz.underlying28 sv_ss (@is_ltr L 8 _ rfl) hk53 rfl).x (ac (@iaO_ok L 28 9 65 53 0 (b % 53) (Lt 8) Tryz.underlying28 sv_ss (@is_ltr L 8 _ rfl) hk53 rfl).x (ac ?_ (ac ?_ (ac (@bl L _ _ _ _ _ _ rfl rfl (x_add (n := j) (m := 1) (by omega)) (@to_ltr L 16 _ rfl rfl)).x an)))))))))))))
      · cases hz : Nat.beq (b % 5) 4 with
        | true =>
          rw [hz] at hs
          exact (@s_add L _ _ 14 _ _ _ (@is_ltr L 10 _ rfl) (@is_ltr L 12 _ rfl) rfl hs.symm (by rw [List.length_append]; omega)).x
        | false =>
          rw [hz, cond_false, List.append_nil] at hs
          exact (@s_add L _ _ 14 _ _ _ (@is_ltr L 1 _ rfl) (@is_ltr L 12 _ rfl) rfl hs.symm (by omega)).x
      · cases hz : Nat.beq (b % 5) 4 with
        | true =>
          rw [hz] at hv
          exact (@s_add L _ _ 15 _ _ _ (@is_ltr L 11 _ rfl) (@is_ltr L 13 _ rfl) rfl hv.symm (by rw [List.length_append]; omega)).x
        | false =>
          rw [hz, cond_false, List.append_nil] at hv
          exact (@s_add L _ _ 15 _ _ _ (@is_ltr L 2 _ rfl) (@is_ltr L 13 _ rfl) rfl hv.symm (by omega)).x
    have hM : ∀ e ∈ flMe, @MEOk L Tryz.prog (kep w) 64 e := ac (@ldO_ok L 9 0 (b % 53) (kep w) 64 Fld.greats (Lt 12) _ sv_as g1 (fun o h => h) (@to_ltr L 12 _ rfl rfl)) (ac (@ldO_ok L 9 0 (b % 53) (kep w) 64 Fld.smalls (Lt 13) _ sv_as g2 (fun o h => h) (@to_ltr L 13 _ rfl rfl)) an)
    refine r_on (j + 1) (toldG L hO hM an an (traL_ok ?_ an an) an (fl_on _) h) hlt (by show bs.length - (j + 1) < bs.length - j; omega)
    exact ac (lt_go rfl) (ac (lt_go rfl) (ac (lt_go rfl) (ac (lt_go rfl) (ac (lt_go rfl) an))))
  · have hje : j = bs.length := by omega
    have e1 : @Eq (Option Value) (L.v 1) ((flLo A bs c).v 1) := by
      show some (Value.string ⟨⟨List.flatten (Fld.items (bs.take j))⟩⟩) = some (.string ⟨⟨List.flatten (Fld.items bs)⟩⟩)
      rw [hje, List.take_length]
    have e2 : @Eq (Option Value) (L.v 2) ((flLo A bs c).v 2) := by
      show some (Value.string ⟨⟨Fld.lows (Fld.items (bs.take j))⟩⟩) = some (.string ⟨⟨Fld.lows (Fld.items bs)⟩⟩)
      rw [hje, List.take_length]
    exact r_out (by intro h; cases h) (toldG L (ac (@bll L _ _ _ _ _ _ _ rfl rfl (xk_lt (decide_eq_false hlt)) (@to_flat L _ rfl)).x an) an an an (traL_ok (ac (lt_go e1) (ac (lt_go e2) an)) an an) an fl_end h)
theorem foldLetters_walk (A : Option Addr) (bs : List UInt8) (c : Nat) (w : World) (hB : BytesAt w A bs) (hT : TabA w) :
    Calls Tryz.prog 5 #[.slice A bs.length c] w fun e w' => e = .returned (.bool true) ∧ Below w.heap.size w w' := by
  let L : Ltr := flLo A bs c
  have hO : ∀ e ∈ flL (decide (60 < bs.length)), @OEOkX L Tryz.prog (kep w) e :=
    ac (@l_any L _ _ 0 3 _ _ _ Tryz.underlying22 rfl rfl).x (ac (@bl L _ _ _ _ _ _ rfl rfl (x_gt (n := bs.length) (m := 60) rfl) (@to_flat L _ rfl)).x (ac (@eq_txt L 2 _ rfl).x an))
  have hP : ∀ e ∈ flP, @PEOk L Tryz.prog (kep w) 64 e := ac (@fixP_ok _ _ _ L _ _ rfl fun w' k => awk10 w' (hT.t.keep k) (hT.m.keep k) (hT.u.keep k)) an
  have ha : @RelL L (startE 64) [Lt 0] [.slice A bs.length c] := @RelL.cons L _ _ _ _ _ (@Rel.ltr L _ 0 _ rfl rfl) (@RelL.nil L _)
  cases h60 : decide (60 < bs.length) with
  | true =>
    rw [h60] at hO
    exact symP L 120 hO an an (@prL_ok _ _ _ L _ _ hP) ha rfl fl_run0
  | false =>
    rw [h60] at hO
    have hn : bs.length ≤ 60 := by have := of_decide_eq_false h60; omega
    have hl := Fld.items_len bs
    have vi := Fld.items_vr bs
    have arg : ∀ {f : FuncId} {i : Nat} {v z : Value} {l : List UInt8}, L.v i = some (.string ⟨⟨l⟩⟩) → (∀ E : Ren, @Rel L E v z) → (∀ w', (∀ b, (kep w) b → w'.heap[b]? = (kep w).ob b) → Calls Tryz.prog f #[.string ⟨⟨l⟩⟩] w' fun e w2 => e = .returned z ∧ Below w'.heap.size w' w2) →
        ∀ (E : Ren) (w' : World) (args' : List Value), (∀ b, (kep w) b → w'.heap[b]? = (kep w).ob b) → @RelL L E [Lt i] args' → Calls Tryz.prog f ⟨args'⟩ w' fun e w2 => ∃ v', e = .returned v' ∧ @Rel L E v v' ∧ Below w'.heap.size w' w2 := by
      intro f i v z l hi hv hc E w' args' k ha
      cases ha with
      | cons h1 t1 =>
        cases t1
        rw [@is_ltr L i _ hi E _ h1]
        exact (hc w' k).mono fun e w2 p => ⟨_, p.1, hv E, p.2⟩
    have hQ : ∀ e ∈ flQ, @PEOk L Tryz.prog (kep w) 64 e :=
      ac (@patP_ok _ _ _ L _ _ (ac (arg (i := 1) rfl (@to_ltr L 2 _ rfl rfl) fun w' k => small_any ⟨⟨List.flatten (Fld.items bs)⟩⟩ (by show (List.flatten (Fld.items bs)).length ≤ _; omega) (Fld.items bs) rfl vi w') an))
        (ac (@patP_ok _ _ _ L _ _ (ac (arg (i := 1) rfl (@to_flat L _ rfl) fun w' k => bad_any ⟨⟨List.flatten (Fld.items bs)⟩⟩ (Fld.items bs) [] (by simp) vi rfl w' (hT.u.keep k)) an)) an)
    have hpr : @PrimOk L Tryz.prog (lsPr (prL (flP ++ flQ))) 64 (kep w) 64 := @orP_ok L _ _ _ _ _ (@greats_ok L _ _ _) (@orP_ok L _ _ _ _ _ (@smalls_ok L _ _ _) (@prL_ok _ _ _ L _ _ fun e he => (List.mem_append.1 he).elim (hP e) (hQ e)))
    exact symP L 120 hO an (ac (fl_ce A bs c hn w hB) an) hpr ha rfl fl_run1
end Go.Proofs.YtanonhannngkmaaGreatDoor
