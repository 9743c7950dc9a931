/-
  table: the law TableChecks from its runs.
-/
import Derived.Test.YtjfchpfbpmediaaGreatDoorTy2
namespace Go.Proofs.YtjfchpfbpmediaaGreatDoor
open Go Go.RowKit
theorem cv_ki [Ltr] {i j : Nat} {n : Int} (hn : -128 ≤ n ∧ n ≤ 127) (hi : Ltr.v i = some (.int .i8 n)) (hj : Ltr.v j = some (.int .i64 n)) : OEOk Tryz.prog (cvE 22 38 (Lt i) (Lt j)) :=
  cvE_ok fun o ρ x E w ho hx => by
    have e1 := is_ltr hi E _ hx
    refine ⟨.int .i64 n, ?_, .ltr hj rfl⟩
    have h : IntKind.i64.wrap n = n := IntWalk.i64_in _ (by omega)
    simp only [execOp, ho, e1]
    go_simp
theorem cv_si [Ltr] {i j : Nat} {n : Int} (hn : -128 ≤ n ∧ n ≤ 127) (hi : Ltr.v i = some (.int .i8 n)) (hj : Ltr.v j = some (.int .i64 n)) : OEOk Tryz.prog (cvE 22 39 (Lt i) (Lt j)) :=
  cvE_ok fun o ρ x E w ho hx => by
    have e1 := is_ltr hi E _ hx
    refine ⟨.int .i64 n, ?_, .ltr hj rfl⟩
    have h : IntKind.i64.wrap n = n := IntWalk.i64_in _ (by omega)
    simp only [execOp, ho, e1]
    go_simp
/-- its last two bits -/
def two (n : Int) : Nat := (BitVec.ofInt 8 n &&& BitVec.ofInt 8 3).toNat
theorem two_lt (n : Int) : two n < 4 := by
  unfold two
  rw [BitVec.toNat_and]
  have : (BitVec.ofInt 8 3).toNat = 3 := rfl
  rw [this]
  exact Nat.lt_succ_of_le Nat.and_le_right
theorem and_ok [Ltr] {i : Nat} {n : Int} (hi : Ltr.v i = some (.int .i8 n)) : OEOk Tryz.prog (binT .and 22 22 (Lt i) (.int .i8 (3 : Nat)) (.int .i8 (two n : Nat))) :=
  binT_ok fun o ρ x y E w ho hx hy => by
    have e1 := is_ltr hi E _ hx
    have e2 := is_flat rfl E _ hy
    refine ⟨.int .i8 (two n : Nat), ?_, .same rfl⟩
    have hw : IntKind.i8.wrap ((two n : Nat) : Int) = (two n : Nat) := by
      have := two_lt n
      have h4 : two n = 0 ∨ two n = 1 ∨ two n = 2 ∨ two n = 3 := by omega
      rcases h4 with h | h | h | h <;> rw [h] <;> rfl
    simp only [execOp, ho, e1, e2]
    have : (Op.intBits .and .i8 n (3 : Nat)).run Tryz.prog w = .ok (.int .i8 (two n : Nat)) w := by
      show Result.ok (Value.int .i8 (IntKind.i8.wrap ((two n : Nat) : Int))) w = _
      rw [hw]
    refine run_value ?_
    exact this
def okW (y : Value) : Bool :=
  match y with
  | .string s => Nat.ble s.data.toList.length 1000
  | .chan (some 5) => true
  | _ => false
def OkT (T : TV) : Prop := ∀ t ∈ T, t.2.length ≤ 1000 ∧ ∀ y ∈ t.2, okW y = true
theorem base_ok : OkT Tbl.base := by
  have h : (Tbl.base.all fun t => Nat.ble t.2.length 100 && t.2.all okW) = true := by kernel_rfl
  intro t ht
  have := List.all_eq_true.1 h t ht
  simp only [Bool.and_eq_true] at this
  have h1 := Nat.le_of_ble_eq_true this.1
  exact ⟨by omega, fun y hy => List.all_eq_true.1 this.2 y hy⟩
theorem base_len : ∀ t ∈ Tbl.base, t.2.length ≤ 100 := by
  have h : (Tbl.base.all fun t => Nat.ble t.2.length 100) = true := by kernel_rfl
  intro t ht
  exact Nat.le_of_ble_eq_true (List.all_eq_true.1 h t ht)
theorem tabX_ok (x c v m : Nat) : OkT (Tbl.tabX x c v m) := by
  have hb := base_ok
  have hl := base_len
  unfold Tbl.tabX
  split
  · intro t ht
    exact hb t (List.mem_filter.1 ht).1
  · intro t ht
    obtain ⟨s, hs, rfl⟩ := List.mem_map.1 ht
    cases (Nat.beq s.1.1 c && Nat.beq s.1.2 v) with
    | false => exact hb s hs
    | true =>
      refine ⟨?_, fun y hy => (hb s hs).2 y (List.mem_of_mem_take hy)⟩
      have := (hb s hs).1
      show (s.2.take m).length ≤ 1000
      rw [List.length_take]
      omega
  · intro t ht
    obtain ⟨s, hs, rfl⟩ := List.mem_map.1 ht
    cases (Nat.beq s.1.1 c && Nat.beq s.1.2 v) with
    | false => exact hb s hs
    | true =>
      refine ⟨?_, fun y hy => ?_⟩
      · have := hl s hs
        show (s.2 ++ [Lt 5]).length ≤ 1000
        rw [List.length_append]
        show _ + 1 ≤ 1000
        omega
      · rcases List.mem_append.1 hy with h | h
        · exact (hb s hs).2 y h
        · rw [List.mem_singleton.1 h]; rfl
  · intro t ht
    obtain ⟨s, hs, rfl⟩ := List.mem_map.1 ht
    cases (Nat.beq s.1.1 c && Nat.beq s.1.2 v) with
    | false => exact hb s hs
    | true =>
      refine ⟨?_, fun y hy => ?_⟩
      · have := hl s hs
        show (s.2 ++ (Tbl.wrds c ((v + 1) % Tbl.many c)).map fun s => Value.string ⟨⟨s⟩⟩).length ≤ 1000
        rw [List.length_append, List.length_map]
        show _ + 3 ≤ 1000
        omega
      · rcases List.mem_append.1 hy with h | h
        · exact (hb s hs).2 y h
        · obtain ⟨z, hz, rfl⟩ := List.mem_map.1 h
          simp only [Tbl.wrds, List.mem_cons, List.not_mem_nil, or_false] at hz
          rcases hz with rfl | rfl | rfl <;> rfl
  · exact hb
def actW (word : ByteArray) (y : Value) : ByteArray :=
  match y with
  | .string s => s
  | _ => word
abbrev tcLt (K S : Int) (cat val what : Nat) (word : ByteArray) (r : Nat) : Ltr := ltrL [.int .i8 K, .int .i8 S, .int .u8 cat, .int .u8 val, .int .u8 what, .string word, .int .u8 (val % 3 : Nat), .int .u8 (cat % 3 : Nat), .int .i64 (val % 3 : Nat), .int .i64 (cat % 3 : Nat), .int .i64 val, .int .i64 K, .int .i64 S, .int .i64 word.size, .int .i64 r, .int .i64 (val % Tbl.many (cat % 15) : Nat)]
theorem many_pos (c : Nat) (h : c < 15) : Tbl.many c ≠ 0 := by
  unfold Tbl.many
  split
  · omega
  · split
    · omega
    · split
      · omega
      · split <;> omega
/-- what is told of the table: its kind, its style -/
def tcK (x : Nat) (K : Int) (val : Nat) : Int := bif Nat.beq x 0 then K else (val % 3 : Nat)
theorem tc_go (K S : Int) (cat val what : Nat) (word : ByteArray) (hK : -128 ≤ K ∧ K ≤ 127) (hS : -128 ≤ S ∧ S ≤ 127) (hc : cat ≤ 255) (hv : val ≤ 255) (hw : what ≤ 255) (hz : word.size ≤ 60) (w : World) (haw : ∀ w' : World, (∀ b, (kep w) b → w'.heap[b]? = (kep w).ob b) → Calls Tryz.prog 6 #[] w' fun e w2 => e = .returned (.bool true) ∧ Below w'.heap.size w' w2)
    (x v m : Nat) (y : Value) (hx : what % 6 = x) (hy : y = Lt 15 ∨ y = .int .i64 (val % Tbl.many (cat % 15) : Nat)) (hm : x = 2 → m = two S) (e : isV true (tcRun x (cat % 15) v m y) = true) :
    Calls Tryz.prog 3 #[.agg #[.int .i8 K, .int .i8 S, .int .u8 cat, .int .u8 val, .int .u8 what, .string word]] w fun e w' => e = .returned (.bool true) ∧ Below w.heap.size w w' := by
  let kind : Int := tcK x K val
  let style : Int := tcK x S cat
  let T : TV := Tbl.tabX x (cat % 15) v m
  let r : Nat := Tbl.chkV kind style (tabF (actW word) T)
  let L : Ltr := tcLt K S cat val what word r
  have l3 : ∀ n : Nat, n % 3 < 3 := fun n => Nat.mod_lt _ (by omega)
  have hW : @PrimOk L Tryz.prog wholeP2 64 (kep w) 64 := by
    have := l3 val
    have := l3 cat
    have hO : ∀ e ∈ tcWO, @OEOkX L Tryz.prog (kep w) e := ac (@bl L _ _ _ _ _ _ rfl rfl (xk_rem (m := 3) (by omega)) (@to_ltr L 6 _ rfl rfl)).x (ac (@bl L _ _ _ _ _ _ rfl rfl (xk_rem (m := 3) (by omega)) (@to_ltr L 7 _ rfl rfl)).x (ac (@cv_kind L 6 8 _ (by omega) rfl rfl).x (ac (@cv_style L 7 9 _ (by omega) rfl rfl).x an)))
    exact @atP_ok L (orcG 64 64 tcWO [] []) (prL []) 64 (kep w) 64 (@orcG_ok _ _ _ _ L _ [] [] hO an an) (@prL_ok _ _ _ L _ _ an) 200 _ _ _ _ _ whole_run2
  have hy' : ∀ E : Ren, @Rel L E y (.int .i64 (val % Tbl.many (cat % 15) : Nat)) := by
    rcases hy with rfl | rfl
    · exact @to_ltr L 15 _ rfl rfl
    · exact @to_flat L _ rfl
  have hO : ∀ e ∈ tcO x (cat % 15) m y, @OEOkX L Tryz.prog (kep w) e := by
    have h0 : ∀ e ∈ (bif Nat.beq x 2 then [binT .and 22 22 (Lt 1) (.int .i8 (3 : Nat)) (.int .i8 m)] else []), @OEOkX L Tryz.prog (kep w) e := by
      cases hb : Nat.beq x 2 with
      | false => exact an
      | true =>
        have := hm (Nat.eq_of_beq_eq_true hb)
        rw [this]
        exact ac (@and_ok L 1 S rfl).x an
    have h1 : ∀ e ∈ [lenE 9 (Lt 5) (Lt 13), binE .gtr (Lt 13) (.int .i64 (60 : Nat)) (.bool false), binE .rem (Lt 2) (.int .u8 (15 : Nat)) (.int .u8 (cat % 15 : Nat)), cvE 5 3 (Lt 3) (Lt 10), binE .rem (Lt 10) (.int .i64 (Tbl.many (cat % 15))) y, binE .rem (Lt 4) (.int .u8 (6 : Nat)) (.int .u8 x), cvE 22 38 (Lt 0) (Lt 11), cvE 22 39 (Lt 1) (Lt 12), binE .eql (Lt 14) (Lt 14) (.bool true)], @OEOkX L Tryz.prog (kep w) e := ac (@len_ba L 5 13 word rfl rfl).x (ac (@bl L _ _ _ _ _ _ rfl rfl (xk_gt (decide_eq_false (by omega : ¬ 60 < word.size))) (@to_flat L _ rfl)).x (ac (@bl L _ _ _ _ _ _ rfl rfl (xk_rem (m := 15) (by omega)) (@to_flat L _ rfl)).x (ac (@cv_u8 L 3 10 _ hv rfl rfl).x
      (ac (@bl L _ _ _ _ _ _ rfl rfl (xk_rem (many_pos (cat % 15) (Nat.mod_lt _ (by omega)))) hy').x (ac (@bl L _ _ _ _ _ _ rfl rfl (xk_rem (m := 6) (by omega)) (by rw [hx]; exact @to_flat L _ rfl)).x (ac (@cv_ki L 0 11 _ hK rfl rfl).x (ac (@cv_si L 1 12 _ hS rfl rfl).x (ac (@bll L _ _ _ _ _ _ _ rfl rfl (xi_eq (a := (r : Int)) (b := (r : Int)) (beq_self_eq_true _)) (@to_flat L _ rfl)).x an))))))))
    exact fun e he => (List.mem_append.1 he).elim (h0 e) (h1 e)
  have hks : ∀ (E : Ren) u, @Rel L E (bif Nat.beq x 0 then Lt 11 else Lt 8) u → u = .int .i64 kind := by
    intro E u h
    show u = .int .i64 (bif Nat.beq x 0 then K else (val % 3 : Nat))
    cases hb : Nat.beq x 0 with
    | true => rw [hb] at h; exact @is_ltr L 11 _ rfl E u h
    | false => rw [hb] at h; exact @is_ltr L 8 _ rfl E u h
  have hss : ∀ (E : Ren) u, @Rel L E (bif Nat.beq x 0 then Lt 12 else Lt 9) u → u = .int .i64 style := by
    intro E u h
    show u = .int .i64 (bif Nat.beq x 0 then S else (cat % 3 : Nat))
    cases hb : Nat.beq x 0 with
    | true => rw [hb] at h; exact @is_ltr L 12 _ rfl E u h
    | false => rw [hb] at h; exact @is_ltr L 9 _ rfl E u h
  have hT := tabX_ok x (cat % 15) v m
  have hact : ∀ t ∈ T, ∀ z ∈ t.2, (∀ (E : Ren) u, @Rel L E z u → u = .string (actW word z)) ∧ (actW word z).size ≤ 1000000 := by
    intro t ht z hz2
    have hk := (hT t ht).2 z hz2
    unfold okW at hk
    split at hk
    · rename_i s
      refine ⟨@is_flat L _ rfl, ?_⟩
      have := Nat.le_of_ble_eq_true hk
      have h2 : s.size = s.data.toList.length := rfl
      show s.size ≤ 1000000
      omega
    · exact ⟨@is_ltr L 5 _ rfl, by show word.size ≤ 1000000; omega⟩
    · cases hk
  have hlen : ∀ t ∈ T, t.2.length ≤ 1000000 := fun t ht => by have := (hT t ht).1; omega
  refine symP L 100 hO (ac (@med_ok _ _ _ L) (ac (@est_ok _ _ _ L) (ac (@del_ok _ _ _ L) an))) an (@orP_ok L _ _ _ _ _ hW (@prL_ok _ _ _ L _ _ (ac (@fixP_ok _ _ _ L _ _ rfl haw) (ac ?_ (ac ?_ an))))) (.cons (.agg (.cons (.ltr rfl rfl) (.cons (.ltr rfl rfl) (.cons (.ltr rfl rfl) (.cons (.ltr rfl rfl) (.cons (.ltr rfl rfl) (.cons (.ltr rfl rfl) .nil))))))) .nil) rfl (isV_eq e)
  · exact @chkP_ok _ _ L _ _ _ _ _ kind style (actW word) hks hss hact hlen (@to_ltr L 14 _ rfl rfl) fun w' b mb clk es h => check_tab h
  · exact @chkP_ok _ _ L _ _ _ _ _ kind style (actW word) hks hss hact hlen (@to_ltr L 14 _ rfl rfl) fun w' b mb clk es h => lcheck_tab h
end Go.Proofs.YtjfchpfbpmediaaGreatDoor
