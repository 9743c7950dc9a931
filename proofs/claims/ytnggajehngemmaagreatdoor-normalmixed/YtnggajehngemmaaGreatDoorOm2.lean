/-
  normal's countEvery: how often each weekday is listed with N 0.
-/
import Derived.Test.YtnggajehngemmaaGreatDoorNe
namespace Go.Proofs.YtnggajehngemmaaGreatDoor
open Go Go.RowKit
/-- one more weekday -/
def cntS (M : IM × Nat) (x : Int × Int) : IM × Nat := if x.1 = 0 then imPut M x.2 ((imGet x.2 M.1).getD 0 + 1) else M
def cntM (V : List (Int × Int)) : IM × Nat := V.foldl cntS ([], 0)
theorem cntM_snoc (V : List (Int × Int)) (x : Int × Int) : cntM (V ++ [x]) = cntS (cntM V) x := by simp [cntM]
/-- how often -/
def cntD (V : List (Int × Int)) (d : Int) : Nat := (V.filter fun x => decide (x.1 = 0 ∧ x.2 = d)).length
theorem cntM_get (V : List (Int × Int)) (d : Int) : (imGet d (cntM V).1).getD 0 = (cntD V d : Int) := by
  suffices h : ∀ n, ∀ V : List (Int × Int), V.length = n → (imGet d (cntM V).1).getD 0 = (cntD V d : Int) from h _ V rfl
  intro n
  induction n with
  | zero => intro V h; obtain rfl := List.eq_nil_of_length_eq_zero h; rfl
  | succ n ih =>
    intro V h
    obtain ⟨W, x, rfl⟩ : ∃ W x, V = W ++ [x] := ⟨V.dropLast, V.getLast (by intro e; subst e; cases h), (List.dropLast_concat_getLast _).symm⟩
    have hW := ih W (by simpa using h)
    rw [cntM_snoc]
    unfold cntS cntD
    rw [List.filter_append, List.length_append]
    by_cases hx : x.1 = 0
    · rw [if_pos hx, imGet_put]
      by_cases hd : d = x.2
      · subst hd
        rw [if_pos rfl]
        simp only [Option.getD_some, hW]
        simp [hx, cntD]
      · rw [if_neg hd, hW]
        have : ¬ x.2 = d := fun e => hd e.symm
        simp [cntD, this]
    · rw [if_neg hx, hW]
      simp [hx, cntD]
theorem cntD_le (V : List (Int × Int)) (d : Int) : cntD V d ≤ V.length := List.length_filter_le _ _
abbrev cvF : FuncId := 37
abbrev cvT : TypeId := 67
abbrev cvL (v : Value) (w : World) (V : List (Int × Int)) (k : Nat) : Ltr := ⟨fun i => [Value.int .i64 k, .int .i64 V.length, .int .i64 0, .int .i64 (V.getD k (0, 0)).1, .int .i64 (V.getD k (0, 0)).2, .int .i64 (cntD (V.take k) (V.getD k (0, 0)).2 : Nat), .int .i64 (cntD (V.take k) (V.getD k (0, 0)).2 + 1 : Nat), .int .i64 (k + 1 : Nat)][i]?, fun _ _ => False,
  fun a kk y => (a = 1 ∧ (∃ b, v = .slice (some ⟨b, 0, none⟩) V.length kk ∧ w.heap[b]? = some y) ∧ RowL (flatN V) 51 2 kk y) ∨ (a = 2 ∧ y = .map ⟨(cntM (V.take k)).1.map imE⟩ (cntM (V.take k)).2) ∨ (a = 3 ∧ y = .map ⟨(cntM (V.take (k + 1))).1.map imE⟩ (cntM (V.take (k + 1))).2),
  fun j kk n c => j = 1 ∧ n = V.length ∧ c = kk, fun p o => p = 0 ∧ o = k * 2, fun _ => 0⟩
noncomputable def cvB : Code := inLoop (loopOf Tryz.prog cvF 0)
noncomputable def cvS : St := ⟨fr 23 [(3, .map (some 66)), (7, TOK 64 1), (8, Lt 1), (9, Lt 0)], ⟨67, [(66, .opq 2), (64, .tok 1)]⟩, []⟩
noncomputable def cvX : St := ⟨fr 23 [(3, .map (some 66))], ⟨67, [(66, .opq 2), (64, .tok 1)]⟩, []⟩
def cvT0 : Tra := ⟨[(.int .i64 0, Lt 0), (Lt 1, Lt 1)], [(1, 1)], [], [], [(1, 1)], [(.mp [] 0, 2)]⟩
noncomputable def cvC : CE := ⟨.loop cvB, cvT0, 67, [], cvS, .exit 0, cvX⟩
def cvO (b : Bool) : List OE := [binE .lss (Lt 0) (Lt 1) (.bool true), binE .eql (Lt 3) (.int .i64 0) (.bool b), binE .add (Lt 5) (.int .i64 1) (Lt 6), binE .add (Lt 0) (.int .i64 1) (Lt 7), iaT 34 64 1 (Lt 0) 0]
def cvM : List ME := [ldA 51 1 0 [Lt 3, Lt 4], imLk cvT 2 4 (Lt 5) true, imUp cvT 2 3 4 (Lt 6)]
def cvTn (a : Nat) : Tra := ⟨[(Lt 7, Lt 0), (Lt 1, Lt 1)], [(1, 1)], [], [], [(1, 1), (a, 2)], []⟩
def cvTx : Tra := ⟨[(Lt 1, Lt 1)], [(1, 1)], [], [], [(1, 1), (2, 2)], []⟩
theorem cv_on1 : ComG (cvO true) cvM [] [] 60 cvB cvS .normal (cvTn 3) 67 [] cvS := by show _ = _; kernel_rfl
theorem cv_on0 : ComG (cvO false) [ldA 51 1 0 [Lt 3, Lt 4]] [] [] 60 cvB cvS .normal (cvTn 2) 67 [] cvS := by show _ = _; kernel_rfl
theorem cv_out : ComG [binE .lss (Lt 0) (Lt 1) (.bool false)] [] [] [] 60 cvB cvS (.exit 0) cvTx 67 [] cvX := by show _ = _; kernel_rfl
/-- the answer: the map at name 66, the list at name 64 as it was -/
def cvK (v : Value) (K : RW) : Bool := veqn 2 v (.map (some 66)) && (match look 66 K.h with | some (.opq a) => Nat.beq a 2 | _ => false) && (match look 64 K.h with | some (.tok a) => Nat.beq a 1 | _ => false)
theorem cv_run : SymK [lenT 34 1 (Lt 1)] [] [cvC] (prL []) 60 cvF ⟨66, [(64, .tok 1)]⟩ [TOK 64 1] cvK := by delta SymK; show _ = _; kernel_rfl
theorem take_succ {V : List (Int × Int)} {k : Nat} (h : k < V.length) : V.take (k + 1) = V.take k ++ [V.getD k (0, 0)] := by
  rw [List.take_add_one]
  simp [h]
theorem cv_go (v : Value) (w : World) (V : List (Int × Int)) (k k' : Nat) {vs : List (Value × Value)} {o : List (Nat × Nat)} {g : List (Ob × Nat)} (hv : ∀ p ∈ vs, ∀ (E E' : Ren) (x : Value), @Rel (cvL v w V k) E p.1 x → @Rel (cvL v w V k') E' p.2 x) (ho : ∀ p ∈ o, ∀ kk y, (cvL v w V k).o p.1 kk y → (cvL v w V k').o p.2 kk y) (hg : ∀ p ∈ g, ∀ (E : Ren) kk x, @Ok (cvL v w V k) E kk p.1 x → ∃ y, x = some y ∧ (cvL v w V k').o p.2 kk y) : TraOk (cvL v w V k) (cvL v w V k') ⟨vs, [(1, 1)], [], [], o, g⟩ where
  v := hv
  s := ac ⟨rfl, fun _ _ _ h => h⟩ an
  c := an
  p := an
  o := ho
  g := hg
theorem cv_o1 {v : Value} {w : World} {V : List (Int × Int)} {k : Nat} {a kk : Nat} {y : Obj} (ha : a = 1) (h : (cvL v w V k).o a kk y) : (∃ b, v = .slice (some ⟨b, 0, none⟩) V.length kk ∧ w.heap[b]? = some y) ∧ RowL (flatN V) 51 2 kk y := by
  subst ha
  rcases h with h | h | h
  · exact h.2
  · exact absurd h.1 (by omega)
  · exact absurd h.1 (by omega)
theorem cv_o2 {v : Value} {w : World} {V : List (Int × Int)} {k : Nat} {a kk : Nat} {y : Obj} (ha : a = 2) (h : (cvL v w V k).o a kk y) : y = .map ⟨(cntM (V.take k)).1.map imE⟩ (cntM (V.take k)).2 := by
  subst ha
  rcases h with h | h | h
  · exact absurd h.1 (by omega)
  · exact h.2
  · exact absurd h.1 (by omega)
theorem cv_o3 {v : Value} {w : World} {V : List (Int × Int)} {k : Nat} {a kk : Nat} {y : Obj} (ha : a = 3) (h : (cvL v w V k).o a kk y) : y = .map ⟨(cntM (V.take (k + 1))).1.map imE⟩ (cntM (V.take (k + 1))).2 := by
  subst ha
  rcases h with h | h | h
  · exact absurd h.1 (by omega)
  · exact absurd h.1 (by omega)
  · exact h.2
theorem cv_ce {v : Value} {w : World} {V : List (Int × Int)} {X : Kep} (hl : V.length ≤ 1000000) : @CEOk (cvL v w V V.length) Tryz.prog 64 X 64 cvC := by
  refine @ce_of Tryz.prog 64 X 64 (cvL v w V V.length) Nat (fun k => cvL v w V k) (fun _ => cvS) (fun k => V.length - k) (fun k => k ≤ V.length) cvC cvB rfl ?_ 0 (Nat.zero_le _) rfl
    (cv_go v w V V.length 0 (vs := [(.int .i64 0, Lt 0), (Lt 1, Lt 1)]) (ac (fl_go rfl rfl rfl) (ac (lt_go rfl) an)) (ac (fun _ _ h => .inl ⟨rfl, cv_o1 rfl h⟩) an) (ac (fun E kk x h => ?_) an)) (ac rfl an)
  · rintro k hk ro kk E a w' h
    let L : Ltr := cvL v w V k
    have hs : ∀ k n c, L.s 1 k n c → n = V.length := fun _ _ _ h => h.2.1
    have o1 : ∀ (k' : Nat) kk y, L.o 1 kk y → (cvL v w V k').o 1 kk y := fun k' kk y h => .inl ⟨rfl, cv_o1 rfl h⟩
    rcases Nat.lt_or_ge k V.length with hlt | hge
    · have hcle := cntD_le (V.take k) (V.getD k (0, 0)).2
      have htl : (V.take k).length ≤ k := List.length_take_le _ _
      have hO : ∀ b, (decide ((V.getD k (0, 0)).1 = 0) = b) → ∀ e ∈ cvO b, @OEOkX L Tryz.prog X e := fun b hb =>
        ac (@ll L _ _ _ _ _ _ _ rfl rfl (xi_lt (decide_eq_true (by omega))) (@to_flat L _ rfl)).x (ac (@li L _ _ _ _ _ _ rfl rfl (xi_eq hb) (@to_flat L _ rfl)).x (ac (@li L _ _ _ _ _ _ rfl rfl (xi_add (c := (cntD (V.take k) (V.getD k (0, 0)).2 + 1 : Nat)) (by omega) (by omega)) (@to_ltr L 6 _ rfl rfl)).x (ac (@li L _ _ _ _ _ _ rfl rfl (xi_add (c := (k + 1 : Nat)) (by omega) (by omega)) (@to_ltr L 7 _ rfl rfl)).x (ac (@iaT_ok L _ _ 64 1 0 V.length k 2 (Lt 0) Tryz.underlying34 (by kernel_rfl) hs (@is_ltr L 0 _ rfl) hlt ⟨rfl, rfl⟩).x an))))
      have hget := cntM_get (V.take k) (V.getD k (0, 0)).2
      have hld : @MEOk L Tryz.prog X 64 (ldA 51 1 0 [Lt 3, Lt 4]) := @ldA_ok L 51 1 0 (k * 2) 2 X 64 [Lt 3, Lt 4] [.int .i64 (V.getD k (0, 0)).1, .int .i64 (V.getD k (0, 0)).2] (by kernel_rfl) (by kernel_rfl) rfl (fun kk y h => rowN_at (cv_o1 rfl h).2 hlt) (fun o h => h.2) (fun E => @RelL.cons L E _ _ _ _ (@to_ltr L 3 _ rfl rfl E) (@RelL.cons L E _ _ _ _ (@to_ltr L 4 _ rfl rfl E) (@RelL.nil L E)))
      have hlk : @MEOk L Tryz.prog X 64 (imLk cvT 2 4 (Lt 5) (imGet (V.getD k (0, 0)).2 (cntM (V.take k)).1).isSome) := @imLk_ok L X 64 2 4 cvT _ _ (V.getD k (0, 0)).2 (cntM (V.take k)) (Lt 5) _ Tryz.underlying67 Tryz.underlying3 (by kernel_rfl) (fun kk y h => cv_o2 rfl h) rfl rfl (fun E => by rw [hget]; exact @to_ltr L 5 _ rfl rfl E)
      cases hb : decide ((V.getD k (0, 0)).1 = 0) with
      | true =>
        have hx := of_decide_eq_true hb
        have hput : cntM (V.take (k + 1)) = imPut (cntM (V.take k)) (V.getD k (0, 0)).2 ((cntD (V.take k) (V.getD k (0, 0)).2 + 1 : Nat) : Int) := by
          rw [take_succ hlt, cntM_snoc]
          unfold cntS
          rw [if_pos hx, hget]
          rfl
        have hup : @MEOk L Tryz.prog X 64 (imUp cvT 2 3 4 (Lt 6)) := @imUp_ok L X 2 3 4 cvT _ _ (V.getD k (0, 0)).2 ((cntD (V.take k) (V.getD k (0, 0)).2 + 1 : Nat) : Int) (cntM (V.take k)) (Lt 6) Tryz.underlying67 Tryz.underlying3 (fun kk y h => cv_o2 rfl h) rfl (@is_ltr L 6 _ rfl) (fun kk => .inr (.inr ⟨rfl, by rw [hput]⟩))
        refine r_on (k + 1) (toldW L (O := cvO true) (M := cvM) (C := []) (hO true hb) (ac hld (ac hlk (ac hup an))) an (@prL_ok _ _ _ L 64 [] an) (cv_go v w V k (k + 1) (vs := [(Lt 7, Lt 0), (Lt 1, Lt 1)]) (o := [(1, 1), (3, 2)]) (ac (lt_go rfl) (ac (lt_go rfl) an)) (ac (o1 (k + 1)) (ac (fun kk y h => .inr (.inl ⟨rfl, cv_o3 rfl h⟩)) an)) an) an cv_on1 h) (by show k + 1 ≤ _; omega) (by show V.length - (k + 1) < V.length - k; omega)
      | false =>
        have hx := of_decide_eq_false hb
        have hput : cntM (V.take (k + 1)) = cntM (V.take k) := by
          rw [take_succ hlt, cntM_snoc]
          unfold cntS
          rw [if_neg hx]
        refine r_on (k + 1) (toldW L (O := cvO false) (M := [ldA 51 1 0 [Lt 3, Lt 4]]) (C := []) (hO false hb) (ac hld an) an (@prL_ok _ _ _ L 64 [] an) (cv_go v w V k (k + 1) (vs := [(Lt 7, Lt 0), (Lt 1, Lt 1)]) (o := [(1, 1), (2, 2)]) (ac (lt_go rfl) (ac (lt_go rfl) an)) (ac (o1 (k + 1)) (ac (fun kk y h => .inr (.inl ⟨rfl, by rw [cv_o2 rfl h, hput]⟩)) an)) an) an cv_on0 h) (by show k + 1 ≤ _; omega) (by show V.length - (k + 1) < V.length - k; omega)
    · have hk' : k = V.length := Nat.le_antisymm hk hge
      subst hk'
      exact r_out (by intro h; cases h) (toldW L (ac (@ll L _ _ _ _ _ _ _ rfl rfl (xi_lt (decide_eq_false (by omega))) (@to_flat L _ rfl)).x an) an an (@prL_ok _ _ _ L 64 [] an) (cv_go v w V V.length V.length (vs := [(Lt 1, Lt 1)]) (o := [(1, 1), (2, 2)]) (ac (lt_go rfl) an) (ac (fun _ _ h => h) (ac (fun _ _ h => h) an)) an) an cv_out h)
  · obtain ⟨es, rfl, r⟩ := h
    cases r
    exact ⟨_, rfl, .inr (.inl ⟨rfl, rfl⟩)⟩
/-- a list as it is -/
theorem lisV_of {w : World} {v : Value} {V : List (Int × Int)} {L : Ltr} {m : Nat} (h : OwnN w 0 v V) (ho : ∀ b k y, v = .slice (some ⟨b, 0, none⟩) V.length k → w.heap[b]? = some y → RowL (flatN V) 51 2 k y → L.o m k y) (hs : ∀ k n c, L.s m k n c ↔ n = V.length ∧ c = k) : @LisV L m w v V.length := by
  rcases h.2 with ⟨rfl, hn⟩ | ⟨g, cap, cur, rfl, hb, hg, h1, h2, h3, h4⟩
  · exact @LisV.mk L _ _ _ _ (.inl ⟨rfl, hn⟩) hs
  · exact @LisV.mk L _ _ _ _ (.inr ⟨g, cap, _, rfl, hg, ho _ _ _ rfl hg (RowL.of h3 h4 h1 h2)⟩) hs
theorem count_any {w : World} {v : Value} {V : List (Int × Int)} (h : OwnN w 0 v V) (hl : V.length ≤ 1000000) :
    Calls Tryz.prog cvF #[v] w fun e w' => ∃ b, e = .returned (.map (some b)) ∧ w.heap.size ≤ b ∧ w'.heap[b]? = some (.map ⟨(cntM V).1.map imE⟩ (cntM V).2) ∧ Below w.heap.size w w' := by
  let L : Ltr := cvL v w V V.length
  have hV : @LisV L 1 w v V.length := lisV_of h (fun b k y e hy hr => .inl ⟨rfl, ⟨b, e, hy⟩, hr⟩) (fun k n c => ⟨fun h => h.2, fun h => ⟨rfl, h⟩⟩)
  obtain ⟨hR, hr⟩ := @rep_startV L w v 1 V.length hV
  refine (symK L 60 (ac (@lenT_ok L 34 _ 1 V.length (Lt 1) Tryz.underlying34 (fun _ _ _ h => h.2.1) (@to_ltr L 1 _ rfl rfl)).x an) an (ac (cv_ce hl) an) (@prL_ok _ _ _ L 64 [] an) hR startV_G (@RelL.cons L _ _ _ _ _ hr (@RelL.nil L _)) cv_run).mono ?_
  rintro e w' ⟨u, F, vv, K1, rfl, hk, x, R1, ru, k1⟩
  unfold cvK at hk
  simp only [Bool.and_eq_true] at hk
  obtain ⟨⟨h1, h2⟩, h3⟩ := hk
  obtain rfl := @veqn_eq noLtr 2 _ _ h1
  split at h2
  · rename_i a ha
    obtain rfl := Nat.eq_of_beq_eq_true h2
    split at h3
    · rename_i a' ha'
      obtain rfl := Nat.eq_of_beq_eq_true h3
      cases ru with
      | same hf => cases hf
      | @map _ b kk hE =>
      obtain ⟨y, hy, ho⟩ := @Rep.oke L _ _ _ _ _ R1 _ _ _ _ ha hE
      have ho := cv_o2 rfl ho
      rw [List.take_length] at ho
      subst ho
      have hb := @below_V L w w' v 1 1 V.length F K1 hV x R1 ha' (fun b k y e ho => by
        obtain ⟨⟨b', e', hy'⟩, -⟩ := cv_o1 rfl ho
        rw [e] at e'
        cases e'
        exact hy') k1
      refine ⟨b, rfl, Nat.le_of_not_lt fun hlt => ?_, hy, hb⟩
      have hX := @Rep.new L _ _ _ _ _ R1 66 b kk (by omega) hE
      unfold kepV at hX
      split at hX
      · rename_i aa n c
        have hb2 : b = aa.block := by
          by_cases hbb : b = aa.block
          · exact hbb
          · exact absurd ⟨hlt, hbb⟩ hX
        rcases hV.c with ⟨e, -⟩ | ⟨b3, k3, y3, e, hy3, ho3⟩
        · cases e
        · cases e
          have e64 := x 64 _ startB_64
          subst hb2
          have := @Rep.inj L _ _ _ _ _ R1 66 64 _ _ _ _ _ ha rfl ha' rfl hE e64
          cases this
      · exact hX hlt
    · cases h3
  · cases h2
end Go.Proofs.YtnggajehngemmaaGreatDoor
/-
  slices.DeleteFunc at weekdays, with a closure that tells which go: its runs over letters.
-/
namespace Go.Proofs.YtnggajehngemmaaGreatDoor
open Go Go.RowKit
abbrev dlF : FuncId := 38
abbrev ixF : FuncId := 59
abbrev prF : FuncId := 39
/-- the closure -/
abbrev dlK : Value := .func (.func prF) ⟨[]⟩ ⟨[Lt 10]⟩
/-- those that stay, of the first j -/
def kpt (p : Int × Int → Bool) (V : List (Int × Int)) (j : Nat) : List (Int × Int) := (V.take j).filter fun x => !p x
/-- the list while it is gone over -/
def mid (p : Int × Int → Bool) (V : List (Int × Int)) (j : Nat) : List (Int × Int) := kpt p V j ++ V.drop (kpt p V j).length
abbrev dlR (V : List (Int × Int)) (kk : Nat) (y : Obj) : Prop := RowL (flatN V) 51 2 kk y
/-- letters: the list V, its N elements; the k-th; where the first one is that goes: i0; how many stay -/
abbrev dlL (p : Int × Int → Bool) (V : List (Int × Int)) (P : Addr) (i0 k : Nat) : Ltr := ⟨fun i => [Value.int .i64 k, .int .i64 V.length, .int .i64 (kpt p V k).length, .int .i64 (V.getD k (0, 0)).1, .int .i64 (V.getD k (0, 0)).2, .int .i64 (k + 1 : Nat), .int .i64 ((kpt p V k).length + 1 : Nat), .int .i64 i0, .int .i64 (i0 + 1 : Nat), .int .i64 0, .pointer (some P)][i]?, fun _ _ => False,
  fun a kk y => (a = 1 ∧ dlR V kk y) ∨ (a = 2 ∧ dlR (mid p V k) kk y) ∨ (a = 3 ∧ dlR (mid p V (k + 1)) kk y) ∨ (a = 4 ∧ dlR (kpt p V k ++ List.replicate (V.length - (kpt p V k).length) (0, 0)) kk y),
  fun j kk n c => (j = 1 ∧ n = V.length ∧ c = kk ∧ V.length ≤ c) ∨ (j = 2 ∧ n = V.length - (kpt p V k).length) ∨ (j = 3 ∧ n = (kpt p V k).length ∧ c = kk),
  fun q o => (q = 0 ∧ o = k * 2) ∨ (q = 1 ∧ o = (kpt p V k).length * 2), fun j => if j = 2 then (kpt p V k).length * 2 else 0⟩
noncomputable def ixB : Code := inLoop (loopOf Tryz.prog ixF 0)
noncomputable def ixS : St := ⟨fr 19 [(0, TOK 64 1), (1, dlK), (7, Lt 1), (8, Lt 0)], ⟨66, [(64, .tok 1)]⟩, []⟩
noncomputable def ixX : St := ⟨fr 19 [], ⟨66, [(64, .tok 1)]⟩, []⟩
noncomputable def ixY : St := ⟨fr 19 [(4, Lt 7)], ⟨66, [(64, .tok 1)]⟩, []⟩
def ixT0 : Tra := traS [(.int .i64 0, Lt 0), (Lt 1, Lt 1), (Lt 10, Lt 10)] [(1, 1)] [(1, 1)]
noncomputable def ixC0 : CE := ⟨.loop ixB, ixT0, 66, [], ixS, .exit 0, ixX⟩
noncomputable def ixC1 : CE := ⟨.loop ixB, ixT0, 66, [], ixS, .ret, ixY⟩
def ixO : List OE := [binE .lss (Lt 0) (Lt 1) (.bool true), binE .add (Lt 0) (.int .i64 1) (Lt 5), iaT 34 64 1 (Lt 0) 0]
def ixM (a : Nat) : List ME := [ldA 51 a 0 [Lt 3, Lt 4]]
def prP (b : Bool) : Prim := flT prF [.agg ⟨[Lt 3, Lt 4]⟩, Lt 10] (.bool b)
def ixTn : Tra := traS [(Lt 5, Lt 0), (Lt 1, Lt 1), (Lt 10, Lt 10)] [(1, 1)] [(1, 1)]
def ixTx : Tra := traS [] [(1, 1)] [(1, 1)]
def ixTy : Tra := traS [(Lt 0, Lt 7)] [(1, 1)] [(1, 1)]
/-- the code of a round, with known calls of any kind -/
abbrev ComP (O : List OE) (M : List ME) (C : List CE) (pr : Prim) (n : Nat) (b : Code) (s : St) (y : Exit) (T : Tra) (n0 : Nat) (s' : St) : Prop := @comes (orcG 64 64 O M C) Tryz.prog pr 64 64 n b s y T n0 [] s' = true
theorem ix_on : ComP ixO (ixM 1) [] (prP false) 60 ixB ixS .normal ixTn 66 ixS := by show _ = _; kernel_rfl
theorem ix_ret : ComP ixO (ixM 1) [] (prP true) 60 ixB ixS .ret ixTy 66 ixY := by show _ = _; kernel_rfl
theorem ix_out : ComP [binE .lss (Lt 0) (Lt 1) (.bool false)] [] [] (prL []) 60 ixB ixS (.exit 0) ixTx 66 ixX := by show _ = _; kernel_rfl
noncomputable def dlB : Code := inLoop (loopOf Tryz.prog dlF 0)
noncomputable def dlS : St := ⟨fr 42 [(0, TOK 64 1), (1, dlK), (5, Lt 2), (6, Lt 0)], ⟨66, [(64, .tok 2)]⟩, []⟩
noncomputable def dlX : St := ⟨fr 42 [(0, TOK 64 1), (5, Lt 2)], ⟨66, [(64, .tok 2)]⟩, []⟩
def dlT0 : Tra := traS [(Lt 8, Lt 0), (Lt 7, Lt 2), (Lt 10, Lt 10)] [(1, 1)] [(1, 2)]
noncomputable def dlC : CE := ⟨.loop dlB, dlT0, 66, [], dlS, .exit 0, dlX⟩
def dlO : List OE := [lenT 34 1 (Lt 1), binE .lss (Lt 0) (Lt 1) (.bool true), binE .add (Lt 0) (.int .i64 1) (Lt 5), binE .add (Lt 2) (.int .i64 1) (Lt 6), iaT 34 64 1 (Lt 0) 0, iaT 34 64 1 (Lt 2) 1]
def dlM : List ME := [ldA 51 2 0 [Lt 3, Lt 4], stA 51 1 2 3 [Lt 3, Lt 4]]
def dlTk : Tra := traS [(Lt 5, Lt 0), (Lt 6, Lt 2), (Lt 10, Lt 10)] [(1, 1)] [(3, 2)]
def dlTg : Tra := traS [(Lt 5, Lt 0), (Lt 2, Lt 2), (Lt 10, Lt 10)] [(1, 1)] [(2, 2)]
def dlTx : Tra := traS [(Lt 2, Lt 2)] [(1, 1)] [(2, 2)]
theorem dl_keep : ComP dlO dlM [] (prP false) 60 dlB dlS .normal dlTk 66 dlS := by show _ = _; kernel_rfl
theorem dl_go : ComP dlO (ixM 2) [] (prP true) 60 dlB dlS .normal dlTg 66 dlS := by show _ = _; kernel_rfl
theorem dl_out : ComP [lenT 34 1 (Lt 1), binE .lss (Lt 0) (Lt 1) (.bool false)] [] [] (prL []) 60 dlB dlS (.exit 0) dlTx 66 dlX := by show _ = _; kernel_rfl
def dlKn (v : Value) (K : RW) : Bool := veqn 2 v (TOK 64 1) && (match look 64 K.h with | some (.tok a) => Nat.beq a 1 | _ => false)
def dlKs (v : Value) (K : RW) : Bool := veqn 2 v (TOK 64 3) && (match look 64 K.h with | some (.tok a) => Nat.beq a 4 | _ => false)
theorem dl_none : SymK [lenT 34 1 (Lt 1)] [] [ixC0] (prL []) 60 dlF ⟨66, [(64, .tok 1)]⟩ [TOK 64 1, dlK] dlKn := by delta SymK; show _ = _; kernel_rfl
theorem dl_some : SymK [lenT 34 1 (Lt 1), binE .eql (Lt 7) (.int .i64 (-1)) (.bool false), binE .add (Lt 7) (.int .i64 1) (Lt 8), slS 34 64 1 (Lt 2) 2, slP 34 64 1 (Lt 2) 3] [clT 34 2 2 4] [ixC1, dlC] (prL []) 60 dlF ⟨66, [(64, .tok 1)]⟩ [TOK 64 1, dlK] dlKs := by delta SymK; show _ = _; kernel_rfl
end Go.Proofs.YtnggajehngemmaaGreatDoor
/-
  slices.DeleteFunc at weekdays: what it leaves.
-/
namespace Go.Proofs.YtnggajehngemmaaGreatDoor
open Go Go.RowKit
section
variable {p : Int × Int → Bool} {V : List (Int × Int)} {P : Addr} {i0 k : Nat}
theorem dl_o1 {kk : Nat} {y : Obj} {a : Nat} (ha : a = 1) (h : (dlL p V P i0 k).o a kk y) : dlR V kk y := by
  subst ha
  rcases h with h | h | h | h
  · exact h.2
  · exact absurd h.1 (by omega)
  · exact absurd h.1 (by omega)
  · exact absurd h.1 (by omega)
theorem dl_o2 {kk : Nat} {y : Obj} {a : Nat} (ha : a = 2) (h : (dlL p V P i0 k).o a kk y) : dlR (mid p V k) kk y := by
  subst ha
  rcases h with h | h | h | h
  · exact absurd h.1 (by omega)
  · exact h.2
  · exact absurd h.1 (by omega)
  · exact absurd h.1 (by omega)
theorem dl_o3 {kk : Nat} {y : Obj} {a : Nat} (ha : a = 3) (h : (dlL p V P i0 k).o a kk y) : dlR (mid p V (k + 1)) kk y := by
  subst ha
  rcases h with h | h | h | h
  · exact absurd h.1 (by omega)
  · exact absurd h.1 (by omega)
  · exact h.2
  · exact absurd h.1 (by omega)
theorem dl_o4 {kk : Nat} {y : Obj} {a : Nat} (ha : a = 4) (h : (dlL p V P i0 k).o a kk y) : dlR (kpt p V k ++ List.replicate (V.length - (kpt p V k).length) (0, 0)) kk y := by
  subst ha
  rcases h with h | h | h | h
  · exact absurd h.1 (by omega)
  · exact absurd h.1 (by omega)
  · exact absurd h.1 (by omega)
  · exact h.2
theorem dl_s1 {kk n c j : Nat} (hj : j = 1) (h : (dlL p V P i0 k).s j kk n c) : n = V.length ∧ c = kk ∧ V.length ≤ c := by
  subst hj
  rcases h with h | h | h
  · exact h.2
  · exact absurd h.1 (by omega)
  · exact absurd h.1 (by omega)
theorem dl_s2 {kk n c j : Nat} (hj : j = 2) (h : (dlL p V P i0 k).s j kk n c) : n = V.length - (kpt p V k).length := by
  subst hj
  rcases h with h | h | h
  · exact absurd h.1 (by omega)
  · exact h.2
  · exact absurd h.1 (by omega)
theorem kpt_succ (h : k < V.length) : kpt p V (k + 1) = if p (V.getD k (0, 0)) then kpt p V k else kpt p V k ++ [V.getD k (0, 0)] := by
  unfold kpt
  rw [take_succ h, List.filter_append]
  generalize V.getD k (0, 0) = x
  cases hx : p x <;> simp [hx]
theorem kpt_le (p : Int × Int → Bool) (V : List (Int × Int)) (k : Nat) : (kpt p V k).length ≤ k :=
  Nat.le_trans (List.length_filter_le _ _) (List.length_take_le _ _)
theorem kpt_leN (p : Int × Int → Bool) (V : List (Int × Int)) (k : Nat) : (kpt p V k).length ≤ V.length :=
  Nat.le_trans (List.length_filter_le _ _) (by simp; omega)
theorem kpt_all (h : ∀ j < k, p (V.getD j (0, 0)) = false) (hk : k ≤ V.length) : kpt p V k = V.take k := by
  unfold kpt
  rw [List.filter_eq_self]
  intro x hx
  obtain ⟨j, hj, rfl⟩ := List.mem_iff_getElem.1 hx
  have hj' : j < k := by
    simp at hj
    omega
  have := h j hj'
  rw [List.getElem_take]
  have e : V.getD j (0, 0) = V[j]'(by omega) := by simp [show j < V.length by omega]
  rw [e] at this
  simp [this]
theorem mid_len : (mid p V k).length = V.length := by
  unfold mid
  have := kpt_leN p V k
  simp
  omega
theorem mid_at (_hk : k < V.length) : (mid p V k).getD k (0, 0) = V.getD k (0, 0) := by
  unfold mid
  have h1 := kpt_le p V k
  simp only [List.getD_eq_getElem?_getD]
  rw [List.getElem?_append_right h1, List.getElem?_drop, show (kpt p V k).length + (k - (kpt p V k).length) = k by omega]
/-- what is stored goes over what lies there -/
theorem mid_keep (hk : k < V.length) (h : p (V.getD k (0, 0)) = false) {kk t : Nat} {y : Obj} (hy : RowL (flatN (mid p V k)) t 2 kk y) : ∃ cs tt, y = .cells cs tt (0, 0) ∧ (kpt p V k).length * 2 + 2 ≤ cs.size ∧ RowL (flatN (mid p V (k + 1))) t 2 kk (.cells (storeL cs ((kpt p V k).length * 2) [.int .i64 (V.getD k (0, 0)).1, .int .i64 (V.getD k (0, 0)).2]) tt (0, 0)) := by
  obtain ⟨ys, rfl, h1, h2⟩ := hy
  have hle := kpt_le p V k
  have hlt : (kpt p V k).length < V.length := by omega
  rw [flatN_len, mid_len] at h1
  refine ⟨_, _, rfl, by simp [flatN_len, mid_len]; omega, ?_⟩
  obtain ⟨x, W, e0⟩ : ∃ x W, V.drop (kpt p V k).length = x :: W ∧ V.drop ((kpt p V k).length + 1) = W := ⟨_, _, List.drop_eq_getElem_cons hlt, rfl⟩
  have e1 : flatN (mid p V k) ++ ys = flatN (kpt p V k) ++ ([.int .i64 x.1, .int .i64 x.2] ++ (flatN W ++ ys)) := by
    unfold mid
    rw [e0.1]
    simp [flatN]
  rw [e1, show (kpt p V k).length * 2 = (flatN (kpt p V k)).length from (flatN_len _).symm, storeL_app (us := [.int .i64 (V.getD k (0, 0)).1, .int .i64 (V.getD k (0, 0)).2]) (b := [.int .i64 x.1, .int .i64 x.2]) _ _ rfl]
  refine ⟨ys, ?_, ?_, h2⟩
  · congr 2
    unfold mid
    rw [kpt_succ hk, h]
    generalize V.getD k (0, 0) = z
    simp only [Bool.false_eq_true, if_false, List.length_append, List.length_singleton]
    rw [e0.2]
    simp [flatN]
  · rw [flatN_len, mid_len]
    exact h1
theorem mid_go (hk : k < V.length) (h : p (V.getD k (0, 0)) = true) : mid p V (k + 1) = mid p V k := by
  unfold mid
  rw [kpt_succ hk, h]
  rfl
theorem zeros_list (n : Nat) : (Go.Builtin.zeroCells (Value.agg #[.int .i64 0, .int .i64 0]).cells n).toList = flatN (List.replicate n (0, 0)) := by
  have hc : (Value.agg #[.int .i64 0, .int .i64 0]).cells = #[.int .i64 0, .int .i64 0] := rfl
  rw [hc]
  apply List.ext_getElem?
  intro i
  have hl := flatN_len (List.replicate n ((0, 0) : Int × Int))
  simp only [List.length_replicate] at hl
  by_cases hi : i < n * 2
  · have hq : i / 2 < (List.replicate n ((0, 0) : Int × Int)).length := by simp; omega
    obtain ⟨f1, f2⟩ := flatN_at hq
    unfold Go.Builtin.zeroCells
    simp only [Array.toList_map, List.getElem?_map]
    rcases Nat.mod_two_eq_zero_or_one i with hm | hm
    · have et : i = i / 2 * 2 := by omega
      rw [← et] at f1
      rw [f1]
      simp [hi, hm]
    · have et : i = i / 2 * 2 + 1 := by omega
      rw [← et] at f2
      rw [f2]
      simp [hi, hm]
  · rw [List.getElem?_eq_none (l := flatN _) (by rw [hl]; omega), List.getElem?_eq_none (by simp [Go.Builtin.zeroCells]; omega)]
theorem flatN_single (V : List (Int × Int)) : (flatN V).all single = true ∧ ∀ u ∈ flatN V, ∀ c, u ≠ .tuple c := by
  refine ⟨List.all_eq_true.2 fun u hu => ?_, fun u hu c e => ?_⟩
  · obtain ⟨x, _, h⟩ := List.mem_flatMap.1 hu
    simp at h
    rcases h with rfl | rfl <;> rfl
  · obtain ⟨x, _, h⟩ := List.mem_flatMap.1 hu
    simp at h
    rcases h with h | h <;> (rw [h] at e; cases e)
theorem clear_row {kk t : Nat} {y : Obj} (hy : RowL (flatN (mid p V k)) t 2 kk y) : ∃ cs tt, y = .cells cs tt (0, 0) ∧ (kpt p V k).length * 2 + (flatN (List.replicate (V.length - (kpt p V k).length) ((0, 0) : Int × Int))).length ≤ cs.size ∧ RowL (flatN (kpt p V k ++ List.replicate (V.length - (kpt p V k).length) (0, 0))) t 2 kk (.cells (storeL cs ((kpt p V k).length * 2) (flatN (List.replicate (V.length - (kpt p V k).length) (0, 0)))) tt (0, 0)) := by
  obtain ⟨ys, rfl, h1, h2⟩ := hy
  have hle := kpt_leN p V k
  rw [flatN_len, mid_len] at h1
  refine ⟨_, _, rfl, by simp [flatN_len, mid_len]; omega, ?_⟩
  have e1 : flatN (mid p V k) ++ ys = flatN (kpt p V k) ++ (flatN (V.drop (kpt p V k).length) ++ ys) := by
    unfold mid
    simp [flatN]
  rw [e1, show (kpt p V k).length * 2 = (flatN (kpt p V k)).length from (flatN_len _).symm, storeL_app _ _ (by simp [flatN_len])]
  refine ⟨ys, ?_, ?_, h2⟩
  · simp [flatN]
  · rw [flatN_len]
    simp
    omega
end
end Go.Proofs.YtnggajehngemmaaGreatDoor
/-
  slices.DeleteFunc at weekdays: its contract.
-/
namespace Go.Proofs.YtnggajehngemmaaGreatDoor
open Go Go.RowKit
section
variable {p : Int × Int → Bool} {V : List (Int × Int)} {P : Addr} {i0 : Nat} {X : Kep}
/-- the closure tells which go, while X stays -/
def Tells (X : Kep) (p : Int × Int → Bool) (V : List (Int × Int)) (P : Addr) : Prop := ∀ x ∈ V, ∀ w : World, (∀ b, X b → w.heap[b]? = X.ob b) → Calls Tryz.prog prF #[.agg #[.int .i64 x.1, .int .i64 x.2], .pointer (some P)] w fun e w' => e = .returned (.bool (p x)) ∧ Below w.heap.size w w'
theorem pr_ok {k : Nat} {b : Bool} (hk : k < V.length) (hp : p (V.getD k (0, 0)) = b) (hT : Tells X p V P) : @PrimOk (dlL p V P i0 k) Tryz.prog (prP b) 64 X 64 := by
  let L : Ltr := dlL p V P i0 k
  refine @flT_ok L _ _ _ _ _ _ _ rfl fun w args' hX h => ?_
  obtain ⟨_, _, rfl, ⟨y, rfl, u1, l1, rfl, ⟨E1, r1⟩, u2, l2, rfl, ⟨E2, r2⟩, rfl⟩, _, _, rfl, ⟨E3, r3⟩, rfl⟩ := h
  rw [@is_ltr L 3 _ rfl _ _ r1, @is_ltr L 4 _ rfl _ _ r2, @is_ltr L 10 _ rfl _ _ r3, ← hp]
  have hm : V.getD k (0, 0) ∈ V := by
    rw [show V.getD k (0, 0) = V[k] by simp [hk]]
    exact List.getElem_mem hk
  exact hT _ hm w hX
theorem dl_go' (k k' : Nat) {v : List (Value × Value)} {s o : List (Nat × Nat)} (hv : ∀ q ∈ v, ∀ (E E' : Ren) (x : Value), @Rel (dlL p V P i0 k) E q.1 x → @Rel (dlL p V P i0 k') E' q.2 x) (hs : s = [(1, 1)]) (ho : ∀ q ∈ o, ∀ kk y, (dlL p V P i0 k).o q.1 kk y → (dlL p V P i0 k').o q.2 kk y) : TraOk (dlL p V P i0 k) (dlL p V P i0 k') (traS v s o) := by
  subst hs
  exact traS_ok hv (ac ⟨rfl, fun _ _ _ h => .inl ⟨rfl, dl_s1 rfl h⟩⟩ an) ho
theorem dl_o11 (k k' : Nat) : ∀ kk y, (dlL p V P i0 k).o 1 kk y → (dlL p V P i0 k').o 1 kk y := fun _ _ h => .inl ⟨rfl, dl_o1 rfl h⟩
theorem dl_ia {k : Nat} (hk : k < V.length) : @OEOkX (dlL p V P i0 k) Tryz.prog X (iaT 34 64 1 (Lt 0) 0) := by
  let _ : Ltr := dlL p V P i0 k
  exact (@iaT_ok (dlL p V P i0 k) _ _ 64 1 0 V.length k 2 (Lt 0) Tryz.underlying34 (by kernel_rfl) (fun _ _ _ h => (dl_s1 rfl h).1) (@is_ltr (dlL p V P i0 k) 0 _ rfl) hk (.inl ⟨rfl, rfl⟩)).x
theorem dl_p0 {k o : Nat} (h : (dlL p V P i0 k).p 0 o) : o = k * 2 := by
  rcases h with h | h
  · exact h.2
  · exact absurd h.1 (by omega)
theorem dl_p1 {k o : Nat} (h : (dlL p V P i0 k).p 1 o) : o = (kpt p V k).length * 2 := by
  rcases h with h | h
  · exact absurd h.1 (by omega)
  · exact h.2
theorem dl_ld1 {k : Nat} (hk : k < V.length) : @MEOk (dlL p V P i0 k) Tryz.prog X 64 (ldA 51 1 0 [Lt 3, Lt 4]) :=
  @ldA_ok (dlL p V P i0 k) 51 1 0 (k * 2) 2 X 64 [Lt 3, Lt 4] [.int .i64 (V.getD k (0, 0)).1, .int .i64 (V.getD k (0, 0)).2] (by kernel_rfl) (by kernel_rfl) rfl (fun kk y h => rowN_at (dl_o1 rfl h) hk) (fun o h => dl_p0 h) (fun E => @RelL.cons (dlL p V P i0 k) E _ _ _ _ (@to_ltr (dlL p V P i0 k) 3 _ rfl rfl E) (@RelL.cons (dlL p V P i0 k) E _ _ _ _ (@to_ltr (dlL p V P i0 k) 4 _ rfl rfl E) (@RelL.nil (dlL p V P i0 k) E)))
theorem dl_ld2 {k : Nat} (hk : k < V.length) : @MEOk (dlL p V P i0 k) Tryz.prog X 64 (ldA 51 2 0 [Lt 3, Lt 4]) :=
  @ldA_ok (dlL p V P i0 k) 51 2 0 (k * 2) 2 X 64 [Lt 3, Lt 4] [.int .i64 (V.getD k (0, 0)).1, .int .i64 (V.getD k (0, 0)).2] (by kernel_rfl) (by kernel_rfl) rfl (fun kk y h => by have := rowN_at (dl_o2 rfl h) (k := k) (by rw [mid_len]; exact hk); rwa [mid_at hk] at this) (fun o h => dl_p0 h) (fun E => @RelL.cons (dlL p V P i0 k) E _ _ _ _ (@to_ltr (dlL p V P i0 k) 3 _ rfl rfl E) (@RelL.cons (dlL p V P i0 k) E _ _ _ _ (@to_ltr (dlL p V P i0 k) 4 _ rfl rfl E) (@RelL.nil (dlL p V P i0 k) E)))
theorem ix_hO {k : Nat} (hk : k < V.length) (hl : V.length ≤ 1000000) : ∀ e ∈ ixO, @OEOkX (dlL p V P i0 k) Tryz.prog X e := by
  let _ : Ltr := dlL p V P i0 k
  exact ac (@ll (dlL p V P i0 k) _ _ _ _ _ _ _ rfl rfl (xi_lt (decide_eq_true (by omega))) (@to_flat (dlL p V P i0 k) _ rfl)).x (ac (@li (dlL p V P i0 k) _ _ _ _ _ _ rfl rfl (xi_add (c := (k + 1 : Nat)) (by omega) (by omega)) (@to_ltr (dlL p V P i0 k) 5 _ rfl rfl)).x (ac (dl_ia hk) an))
/-- the search ends at nothing -/
theorem ix_ce0 {j : Nat} (hl : V.length ≤ 1000000) (hp : ∀ k < V.length, p (V.getD k (0, 0)) = false) (hT : Tells X p V P) : @CEOk (dlL p V P i0 j) Tryz.prog 64 X 64 ixC0 := by
  refine @ce_of Tryz.prog 64 X 64 (dlL p V P i0 j) Nat (fun k => dlL p V P i0 k) (fun _ => ixS) (fun k => V.length - k) (fun k => k ≤ V.length) ixC0 ixB rfl ?_ 0 (Nat.zero_le _) rfl
    (dl_go' j 0 (v := [(.int .i64 0, Lt 0), (Lt 1, Lt 1), (Lt 10, Lt 10)]) (ac (fl_go rfl rfl rfl) (ac (lt_go rfl) (ac (lt_go rfl) an))) rfl (ac (dl_o11 j 0) an)) an
  rintro k hk ro kk E a w' h
  let _ : Ltr := dlL p V P i0 k
  rcases Nat.lt_or_ge k V.length with hlt | hge
  · exact r_on (k + 1) (toldW (dlL p V P i0 k) (ix_hO hlt hl) (ac (dl_ld1 hlt) an) an (pr_ok hlt (hp k hlt) hT) (dl_go' k (k + 1) (v := [(Lt 5, Lt 0), (Lt 1, Lt 1), (Lt 10, Lt 10)]) (ac (lt_go rfl) (ac (lt_go rfl) (ac (lt_go rfl) an))) rfl (ac (dl_o11 k (k + 1)) an)) an ix_on h) (by show k + 1 ≤ _; omega) (by show V.length - (k + 1) < V.length - k; omega)
  · exact r_out (by intro h; cases h) (toldW (dlL p V P i0 k) (ac (@ll (dlL p V P i0 k) _ _ _ _ _ _ _ rfl rfl (xi_lt (decide_eq_false (by omega))) (@to_flat (dlL p V P i0 k) _ rfl)).x an) an an (@prL_ok _ _ _ (dlL p V P i0 k) 64 [] an) (dl_go' k j (v := []) an rfl (ac (dl_o11 k j) an)) an ix_out h)
/-- the search ends at i0 -/
theorem ix_ce1 {j : Nat} (hl : V.length ≤ 1000000) (hi : i0 < V.length) (hp : ∀ k < i0, p (V.getD k (0, 0)) = false) (hpi : p (V.getD i0 (0, 0)) = true) (hT : Tells X p V P) : @CEOk (dlL p V P i0 j) Tryz.prog 64 X 64 ixC1 := by
  refine @ce_of Tryz.prog 64 X 64 (dlL p V P i0 j) Nat (fun k => dlL p V P i0 k) (fun _ => ixS) (fun k => V.length - k) (fun k => k ≤ i0) ixC1 ixB rfl ?_ 0 (Nat.zero_le _) rfl
    (dl_go' j 0 (v := [(.int .i64 0, Lt 0), (Lt 1, Lt 1), (Lt 10, Lt 10)]) (ac (fl_go rfl rfl rfl) (ac (lt_go rfl) (ac (lt_go rfl) an))) rfl (ac (dl_o11 j 0) an)) an
  rintro k hk ro kk E a w' h
  let _ : Ltr := dlL p V P i0 k
  have hk : k ≤ i0 := hk
  rcases Nat.lt_or_ge k i0 with hlt | hge
  · exact r_on (k + 1) (toldW (dlL p V P i0 k) (ix_hO (by omega) hl) (ac (dl_ld1 (by omega)) an) an (pr_ok (by omega) (hp k hlt) hT) (dl_go' k (k + 1) (v := [(Lt 5, Lt 0), (Lt 1, Lt 1), (Lt 10, Lt 10)]) (ac (lt_go rfl) (ac (lt_go rfl) (ac (lt_go rfl) an))) rfl (ac (dl_o11 k (k + 1)) an)) an ix_on h) (by show k + 1 ≤ _; omega) (by show V.length - (k + 1) < V.length - k; omega)
  · obtain rfl : k = i0 := by omega
    exact r_out (by intro h; cases h) (toldW (dlL p V P k k) (ix_hO hi hl) (ac (dl_ld1 hi) an) an (pr_ok hi hpi hT) (dl_go' k j (v := [(Lt 0, Lt 7)]) (ac (lt_go rfl) an) rfl (ac (dl_o11 k j) an)) an ix_ret h)
theorem dl_hO {k : Nat} (hk : k < V.length) (hl : V.length ≤ 1000000) : ∀ e ∈ dlO, @OEOkX (dlL p V P i0 k) Tryz.prog X e := by
  have h2 := kpt_le p V k
  let _ : Ltr := dlL p V P i0 k
  exact ac (@lenT_ok (dlL p V P i0 k) 34 _ 1 V.length (Lt 1) Tryz.underlying34 (fun _ _ _ h => (dl_s1 rfl h).1) (@to_ltr (dlL p V P i0 k) 1 _ rfl rfl)).x (ac (@ll (dlL p V P i0 k) _ _ _ _ _ _ _ rfl rfl (xi_lt (decide_eq_true (by omega))) (@to_flat (dlL p V P i0 k) _ rfl)).x (ac (@li (dlL p V P i0 k) _ _ _ _ _ _ rfl rfl (xi_add (c := (k + 1 : Nat)) (by omega) (by omega)) (@to_ltr (dlL p V P i0 k) 5 _ rfl rfl)).x
    (ac (@li (dlL p V P i0 k) _ _ _ _ _ _ rfl rfl (xi_add (c := ((kpt p V k).length + 1 : Nat)) (by omega) (by omega)) (@to_ltr (dlL p V P i0 k) 6 _ rfl rfl)).x (ac (dl_ia hk) (ac (@iaT_ok (dlL p V P i0 k) _ _ 64 1 1 V.length (kpt p V k).length 2 (Lt 2) Tryz.underlying34 (by kernel_rfl) (fun _ _ _ h => (dl_s1 rfl h).1) (@is_ltr (dlL p V P i0 k) 2 _ rfl) (by omega) (.inr ⟨rfl, rfl⟩)).x an)))))
theorem dl_hM {k : Nat} (hk : k < V.length) : p (V.getD k (0, 0)) = false → ∀ e ∈ dlM, @MEOk (dlL p V P i0 k) Tryz.prog X 64 e := fun hp =>
  ac (dl_ld2 hk) (ac (@stA_ok (dlL p V P i0 k) 51 1 2 3 ((kpt p V k).length * 2) 2 X [Lt 3, Lt 4] [.int .i64 (V.getD k (0, 0)).1, .int .i64 (V.getD k (0, 0)).2] (by kernel_rfl) rfl (fun o h => dl_p1 h) (@rl_l (dlL p V P i0 k) _ _ _ _ rfl (@rl_l (dlL p V P i0 k) _ _ _ _ rfl (@rl_nil (dlL p V P i0 k)))) rfl (fun u hu c e => by simp at hu; rcases hu with h | h <;> (rw [h] at e; cases e)) (fun kk y h => by
    obtain ⟨cs, tt, h1, h2, h3⟩ := mid_keep hk hp (dl_o2 rfl h)
    exact ⟨cs, tt, h1, h2, .inr (.inr (.inl ⟨rfl, by obtain ⟨ys, e, q⟩ := h3; obtain ⟨ys', e', q'⟩ := dl_o2 rfl h; rw [h1] at e'; cases e'; exact ⟨ys, e, q⟩⟩))⟩)) an)
end
end Go.Proofs.YtnggajehngemmaaGreatDoor
/-
  slices.DeleteFunc at weekdays: its loop, its contract.
-/
namespace Go.Proofs.YtnggajehngemmaaGreatDoor
open Go Go.RowKit
section
variable {p : Int × Int → Bool} {V : List (Int × Int)} {P : Addr} {i0 : Nat} {X : Kep}
theorem kpt_first (hi : i0 < V.length) (hp : ∀ k < i0, p (V.getD k (0, 0)) = false) (hpi : p (V.getD i0 (0, 0)) = true) : kpt p V (i0 + 1) = V.take i0 := by
  rw [kpt_succ hi, hpi, if_pos rfl, kpt_all hp (by omega)]
theorem mid_first (hi : i0 < V.length) (hp : ∀ k < i0, p (V.getD k (0, 0)) = false) (hpi : p (V.getD i0 (0, 0)) = true) : mid p V (i0 + 1) = V := by
  unfold mid
  rw [kpt_first hi hp hpi, List.length_take, Nat.min_eq_left (by omega), List.take_append_drop]
theorem dl_ce (hl : V.length ≤ 1000000) (hi : i0 < V.length) (hp : ∀ k < i0, p (V.getD k (0, 0)) = false) (hpi : p (V.getD i0 (0, 0)) = true) (hT : Tells X p V P) : @CEOk (dlL p V P i0 V.length) Tryz.prog 64 X 64 dlC := by
  have hk0 : (kpt p V (i0 + 1)).length = i0 := by rw [kpt_first hi hp hpi, List.length_take, Nat.min_eq_left (by omega)]
  refine @ce_of Tryz.prog 64 X 64 (dlL p V P i0 V.length) Nat (fun k => dlL p V P i0 k) (fun _ => dlS) (fun k => V.length - k) (fun k => i0 < k ∧ k ≤ V.length) dlC dlB rfl ?_ (i0 + 1) ⟨by omega, by omega⟩ rfl
    (dl_go' V.length (i0 + 1) (v := [(Lt 8, Lt 0), (Lt 7, Lt 2), (Lt 10, Lt 10)]) (o := [(1, 2)]) (ac (lt_go rfl) (ac (lt_go (by show some (Value.int .i64 (i0 : Int)) = some (.int .i64 ((kpt p V (i0 + 1)).length : Int)); rw [hk0])) (ac (lt_go rfl) an))) rfl (ac (fun kk y h => .inr (.inl ⟨rfl, by rw [mid_first hi hp hpi]; exact dl_o1 rfl h⟩)) an)) an
  rintro k ⟨hk1, hk⟩ ro kk E a w' h
  let _ : Ltr := dlL p V P i0 k
  rcases Nat.lt_or_ge k V.length with hlt | hge
  · cases hb : p (V.getD k (0, 0)) with
    | false =>
      have hkk := kpt_succ (p := p) hlt
      rw [hb] at hkk
      have hkl : (kpt p V (k + 1)).length = (kpt p V k).length + 1 := by rw [hkk]; simp
      exact r_on (k + 1) (toldW (dlL p V P i0 k) (dl_hO hlt hl) (dl_hM hlt hb) an (pr_ok hlt hb hT) (dl_go' k (k + 1) (v := [(Lt 5, Lt 0), (Lt 6, Lt 2), (Lt 10, Lt 10)]) (o := [(3, 2)]) (ac (lt_go rfl) (ac (lt_go (by show some (Value.int .i64 (((kpt p V k).length + 1 : Nat) : Int)) = some (.int .i64 ((kpt p V (k + 1)).length : Int)); rw [hkl])) (ac (lt_go rfl) an))) rfl (ac (fun kk y h => .inr (.inl ⟨rfl, dl_o3 rfl h⟩)) an)) an dl_keep h) ⟨by omega, by omega⟩ (by show V.length - (k + 1) < V.length - k; omega)
    | true =>
      have hkk := kpt_succ (p := p) hlt
      rw [hb, if_pos rfl] at hkk
      exact r_on (k + 1) (toldW (dlL p V P i0 k) (M := ixM 2) (dl_hO hlt hl) (ac (dl_ld2 hlt) an) an (pr_ok hlt hb hT) (dl_go' k (k + 1) (v := [(Lt 5, Lt 0), (Lt 2, Lt 2), (Lt 10, Lt 10)]) (o := [(2, 2)]) (ac (lt_go rfl) (ac (lt_go (by show some (Value.int .i64 ((kpt p V k).length : Int)) = some (.int .i64 ((kpt p V (k + 1)).length : Int)); rw [hkk])) (ac (lt_go rfl) an))) rfl (ac (fun kk y h => .inr (.inl ⟨rfl, by rw [mid_go hlt hb]; exact dl_o2 rfl h⟩)) an)) an dl_go h) ⟨by omega, by omega⟩ (by show V.length - (k + 1) < V.length - k; omega)
  · obtain rfl : k = V.length := Nat.le_antisymm hk hge
    exact r_out (by intro h; cases h) (toldW (dlL p V P i0 V.length) (ac (@lenT_ok (dlL p V P i0 V.length) 34 _ 1 V.length (Lt 1) Tryz.underlying34 (fun _ _ _ h => (dl_s1 rfl h).1) (@to_ltr (dlL p V P i0 V.length) 1 _ rfl rfl)).x (ac (@ll (dlL p V P i0 V.length) _ _ _ _ _ _ _ rfl rfl (xi_lt (decide_eq_false (by omega))) (@to_flat (dlL p V P i0 V.length) _ rfl)).x an)) an an (@prL_ok _ _ _ (dlL p V P i0 V.length) 64 [] an) (dl_go' V.length V.length (v := [(Lt 2, Lt 2)]) (o := [(2, 2)]) (ac (lt_go rfl) an) rfl (ac (fun _ _ h => h) an)) an dl_out h)
/-- the first that goes -/
theorem first_at (p : Int × Int → Bool) : ∀ (V : List (Int × Int)), (∀ k < V.length, p (V.getD k (0, 0)) = false) ∨ ∃ i < V.length, (∀ k < i, p (V.getD k (0, 0)) = false) ∧ p (V.getD i (0, 0)) = true
  | [] => .inl fun k hk => by cases hk
  | x :: V => by
    cases hx : p x with
    | true => exact .inr ⟨0, by simp, fun k hk => by omega, hx⟩
    | false =>
      rcases first_at p V with h | ⟨i, h1, h2, h3⟩
      · refine .inl fun k hk => ?_
        cases k with
        | zero => exact hx
        | succ k => simpa using h k (by simpa using hk)
      · refine .inr ⟨i + 1, by simpa using h1, fun k hk => ?_, by simpa using h3⟩
        cases k with
        | zero => exact hx
        | succ k => simpa using h2 k (by omega)
theorem delN_any {w : World} {base : Nat} {v : Value} (h : OwnN w base v V) (hl : V.length ≤ 1000000) (hT : Tells (kepV w v) p V P) :
    Calls Tryz.prog dlF #[v, .func (.func prF) #[] #[.pointer (some P)]] w fun e w' => ∃ A c, v = .slice A V.length c ∧ e = .returned (.slice A (V.filter fun x => !p x).length c) ∧ OwnN w' base (.slice A (V.filter fun x => !p x).length c) (V.filter fun x => !p x) ∧ Kp (kepV w v) w w' := by
  have hv : (v = .slice none 0 0 ∧ V.length = 0) ∨ ∃ b k y, v = .slice (some ⟨b, 0, none⟩) V.length k ∧ V.length ≤ k ∧ base ≤ b ∧ w.heap[b]? = some y ∧ dlR V k y := by
    rcases h.2 with ⟨rfl, hn⟩ | ⟨g, cap, cur, rfl, hb, hg, h1, h2, h3, h4⟩
    · exact .inl ⟨rfl, hn⟩
    · exact .inr ⟨g, cap, _, rfl, h1, hb, hg, RowL.of h3 h4 h1 h2⟩
  have hN : kpt p V V.length = V.filter fun x => !p x := by unfold kpt; rw [List.take_length]
  have start : ∀ i0 k, @Rep (dlL p V P i0 k) (kepV w v) 64 (startV w v) ⟨66, [(64, .tok 1)]⟩ w ∧ @Rel (dlL p V P i0 k) (startV w v) (TOK 64 1) v := by
    intro i0 k
    rcases hv with ⟨rfl, hn⟩ | ⟨b, kk, y, rfl, hle, hb, hy, hr⟩
    · obtain rfl : V = [] := List.eq_nil_of_length_eq_zero hn
      exact @rep_startN (dlL p [] P i0 k) w 1 (.inl ⟨rfl, rfl, rfl, Nat.le_refl _⟩)
    · exact ⟨@rep_startB (dlL p V P i0 k) w b kk 1 y hy (.inl ⟨rfl, hr⟩), @Rel.tk (dlL p V P i0 k) _ _ _ _ _ _ _ _ startB_64 startB_65 (.inl ⟨rfl, rfl, rfl, hle⟩)⟩
  have lenOk : ∀ i0 k, @OEOkX (dlL p V P i0 k) Tryz.prog (kepV w v) (lenT 34 1 (Lt 1)) := fun i0 k => by
    let _ : Ltr := dlL p V P i0 k
    exact (@lenT_ok (dlL p V P i0 k) 34 _ 1 V.length (Lt 1) Tryz.underlying34 (fun _ _ _ h => (dl_s1 rfl h).1) (@to_ltr (dlL p V P i0 k) 1 _ rfl rfl)).x
  have args : ∀ i0 k, @RelL (dlL p V P i0 k) (startV w v) [TOK 64 1, dlK] [v, .func (.func prF) #[] #[.pointer (some P)]] := fun i0 k =>
    @RelL.cons (dlL p V P i0 k) _ _ _ _ _ (start i0 k).2 (@RelL.cons (dlL p V P i0 k) _ _ _ _ _ (@Rel.func (dlL p V P i0 k) _ _ _ _ _ _ (@RelL.nil (dlL p V P i0 k) _) (@RelL.cons (dlL p V P i0 k) _ _ _ _ _ (@to_ltr (dlL p V P i0 k) 10 _ rfl rfl _) (@RelL.nil (dlL p V P i0 k) _))) (@RelL.nil (dlL p V P i0 k) _))
  rcases first_at p V with hall | ⟨i0, hi, hp, hpi⟩
  · have hf : (V.filter fun x => !p x) = V := by rw [← hN, kpt_all hall (Nat.le_refl _), List.take_length]
    rw [hf]
    refine (symK (dlL p V P 0 0) 60 (ac (lenOk 0 0) an) an (ac (ix_ce0 hl hall hT) an) (@prL_ok _ _ _ (dlL p V P 0 0) 64 [] an) (start 0 0).1 startV_G (args 0 0) dl_none).mono ?_
    rintro e w' ⟨u, F, vv, K1, rfl, hk, x, R1, ru, k1⟩
    unfold dlKn at hk
    simp only [Bool.and_eq_true] at hk
    obtain ⟨h1, h2⟩ := hk
    obtain rfl := @veqn_eq noLtr 2 _ _ h1
    split at h2
    · rename_i a ha
      obtain rfl := Nat.eq_of_beq_eq_true h2
      rcases hv with ⟨rfl, hn⟩ | ⟨b, kk, y, rfl, hle, hb, hy, hr⟩
      · cases ru with
        | same hf => cases hf
        | @tk _ _ b k n c f hE hq hs => rw [x 65 _ Ren.at] at hq; cases hq
        | tkn hq hs =>
          obtain rfl : V = [] := List.eq_nil_of_length_eq_zero hn
          exact ⟨none, 0, rfl, rfl, OwnN.nil _ _, k1⟩
      · cases ru with
        | same hf => cases hf
        | tkn hq hs => rw [x 65 _ startB_65] at hq; cases hq
        | @tk _ _ b2 k2 n c f hE hq hs =>
          have e64 := x 64 _ startB_64
          rw [hE] at e64
          obtain ⟨rfl, rfl⟩ := Prod.mk.inj (Option.some.inj e64)
          obtain ⟨y', hy', ho'⟩ := @Rep.oke (dlL p V P 0 0) _ _ _ _ _ R1 _ _ _ _ ha hE
          obtain ⟨rfl, rfl, -⟩ := dl_s1 rfl hs
          exact ⟨_, _, rfl, rfl, own_row rfl hb hy' (dl_o1 rfl ho'), k1⟩
    · cases h2
  · have hle := kpt_leN p V V.length
    have hlt : (kpt p V V.length).length < V.length := by
      rw [hN]
      have hm : V.getD i0 (0, 0) ∈ V := by
        rw [show V.getD i0 (0, 0) = V[i0] by simp [hi]]
        exact List.getElem_mem hi
      rcases Nat.lt_or_ge (V.filter fun x => !p x).length V.length with h | h
      · exact h
      · exfalso
        have := List.length_filter_eq_length_iff.1 (Nat.le_antisymm (List.length_filter_le _ _) h) _ hm
        rw [hpi] at this
        cases this
    let L : Ltr := dlL p V P i0 V.length
    have hO : ∀ e ∈ [lenT 34 1 (Lt 1), binE .eql (Lt 7) (.int .i64 (-1)) (.bool false), binE .add (Lt 7) (.int .i64 1) (Lt 8), slS 34 64 1 (Lt 2) 2, slP 34 64 1 (Lt 2) 3], @OEOkX L Tryz.prog (kepV w v) e := by
      have hs1 : ∀ k n c, L.s 1 k n c → n = V.length ∧ V.length ≤ c := fun _ _ _ h => ⟨(dl_s1 rfl h).1, (dl_s1 rfl h).2.2⟩
      exact ac (lenOk _ _) (ac (@li L _ _ _ _ _ _ rfl rfl (xi_eq (decide_eq_false (by omega))) (@to_flat L _ rfl)).x (ac (@li L _ _ _ _ _ _ rfl rfl (xi_add (c := (i0 + 1 : Nat)) (by omega) (by omega)) (@to_ltr L 8 _ rfl rfl)).x
        (ac (@slS_ok L 34 _ 64 1 2 V.length (kpt p V V.length).length 2 (Lt 2) Tryz.underlying34 (by kernel_rfl) hs1 (@is_ltr L 2 _ rfl) hlt rfl (fun k n c _ => .inr (.inl ⟨rfl, rfl⟩))).x (ac (@slP_ok L 34 _ 64 1 3 V.length (kpt p V V.length).length 2 (Lt 2) Tryz.underlying34 (by kernel_rfl) hs1 (@is_ltr L 2 _ rfl) hle (by omega) (fun k n c h => .inr (.inr ⟨rfl, rfl, (dl_s1 rfl h).2.1⟩))).x an))))
    have hM : ∀ e ∈ [clT 34 2 2 4], @MEOk L Tryz.prog (kepV w v) 64 e := by
      obtain ⟨f1, f2⟩ := flatN_single (List.replicate (V.length - (kpt p V V.length).length) (0, 0))
      exact ac (@clT_ok L 34 _ 2 2 4 ((kpt p V V.length).length * 2) (V.length - (kpt p V V.length).length) _ (.agg #[.int .i64 0, .int .i64 0]) _ Tryz.underlying34 (by kernel_rfl) (zeros_list _) (by omega) rfl (fun k n c h => dl_s2 rfl h) f1 f2 (fun kk y h => by
        obtain ⟨cs, tt, g1, g2, g3⟩ := clear_row (dl_o2 rfl h)
        have g4 : tt = 51 := by obtain ⟨ys, e, -⟩ := dl_o2 rfl h; rw [g1] at e; cases e; rfl
        subst g4
        exact ⟨cs, _, g1, g2, .inr (.inr (.inr ⟨rfl, g3⟩))⟩)) an
    refine (symK L 60 hO hM (ac (ix_ce1 hl hi hp hpi hT) (ac (dl_ce hl hi hp hpi hT) an)) (@prL_ok _ _ _ L 64 [] an) (start i0 V.length).1 startV_G (args i0 V.length) dl_some).mono ?_
    rintro e w' ⟨u, F, vv, K1, rfl, hk, x, R1, ru, k1⟩
    unfold dlKs at hk
    simp only [Bool.and_eq_true] at hk
    obtain ⟨h1, h2⟩ := hk
    obtain rfl := @veqn_eq noLtr 2 _ _ h1
    split at h2
    · rename_i a ha
      obtain rfl := Nat.eq_of_beq_eq_true h2
      rcases hv with ⟨rfl, hn⟩ | ⟨b, kk, y, rfl, hle2, hb, hy, hr⟩
      · omega
      · cases ru with
        | same hf => cases hf
        | tkn hq hs => rw [x 65 _ startB_65] at hq; cases hq
        | @tk _ _ b2 k2 n c f hE hq hs =>
          have e64 := x 64 _ startB_64
          rw [hE] at e64
          obtain ⟨rfl, rfl⟩ := Prod.mk.inj (Option.some.inj e64)
          obtain ⟨y', hy', ho'⟩ := @Rep.oke L _ _ _ _ _ R1 _ _ _ _ ha hE
          have ho' := dl_o4 rfl ho'
          obtain ⟨rfl, rfl⟩ : n = (kpt p V V.length).length ∧ c = k2 := by
            rcases hs with hs | hs | hs
            · exact absurd hs.1 (by omega)
            · exact absurd hs.1 (by omega)
            · exact hs.2
          rw [hN] at ho' ⊢
          refine ⟨_, _, rfl, rfl, own_row rfl hb hy' ?_, k1⟩
          obtain ⟨ys, rfl, q1, q2⟩ := ho'
          refine ⟨flatN (List.replicate (V.length - (V.filter fun x => !p x).length) (0, 0)) ++ ys, ?_, ?_, q2⟩
          · simp [flatN]
          · simp only [List.length_append, flatN_len, List.length_replicate] at q1 ⊢
            omega
    · cases h2
end
end Go.Proofs.YtnggajehngemmaaGreatDoor
/-
  normal.Of's closure: what it tells; weekdaysLetAll, monthsLetAll's entries.
-/
namespace Go.Proofs.YtnggajehngemmaaGreatDoor
open Go Go.RowKit
theorem im_lookup {t kt el : TypeId} {w : World} {mb : Nat} {M : IM × Nat} {d : Int} (hu : Tryz.prog.underlying t = some (.map kt el)) (hk : Tryz.prog.underlying kt = some (.int .i64)) (hz : svp Tryz.prog (Go.zeroValue el) = some (.int .i64 0)) (h : w.heap[mb]? = some (.map ⟨M.1.map imE⟩ M.2)) : (Instr.lookup t (.map (some mb)) (.int .i64 d) false).run Tryz.prog w = .ok (.int .i64 ((imGet d M.1).getD 0)) w := by
  let E : Ren := fun i => bif Nat.beq i 0 then some (mb, 0) else none
  have look' : ∀ {i : Nat} {o : Ob}, look i [(0, Ob.mp (M.1.map imE) M.2)] = some o → i = 0 ∧ o = .mp (M.1.map imE) M.2 := by
    intro i o h
    by_cases h0 : i = 0
    · subst h0
      rw [look_at] at h
      exact ⟨rfl, (Option.some.inj h).symm⟩
    · rw [look_ne h0] at h; cases h
  have R : @Rep noLtr ⟨fun _ => False, fun _ => none⟩ 0 E ⟨1, [(0, .mp (M.1.map imE) M.2)]⟩ w := by
    refine @Rep.mk noLtr _ _ _ _ _ (fun i hi => ?_) (fun i o hh => ?_) (fun i j o o' b k k' h1 _ h2 _ _ _ => ?_) (fun i b k _ _ hx => hx) (fun b hb => hb.elim) (Nat.zero_le _) (fun b hb => hb.elim)
    · show (bif Nat.beq i 0 then some (mb, 0) else none) = none
      rw [beq_ne (by have : 1 ≤ i := hi; omega)]
      rfl
    · obtain ⟨rfl, rfl⟩ := look' hh
      exact .inr ⟨mb, 0, rfl, _, h, @im_rel noLtr _ _⟩
    · obtain ⟨rfl, -⟩ := look' h1
      obtain ⟨rfl, -⟩ := look' h2
      rfl
  have hml : mlk Tryz.prog ⟨1, [(0, .mp (M.1.map imE) M.2)]⟩ t (.map (some 0)) (.int .i64 d) false = some (.int .i64 ((imGet d M.1).getD 0)) := by
    unfold mlk
    rw [hu]
    have hck : ck Tryz.prog kt (.int .i64 d) = true := by unfold ck; rw [hk]
    dsimp only
    rw [hck, cond_true]
    unfold mfd
    dsimp only
    rw [look_at]
    dsimp only
    have : fk Tryz.prog kt (.int .i64 d) (M.1.map imE) = some (match imIdx d M.1 0 with | some j => some (j, .int .i64 ((imGet d M.1).getD 0)) | none => none) := by
      unfold fk
      dsimp only
      rw [hk]
      exact im_fk
    rw [this]
    cases hix : imIdx d M.1 0 with
    | none =>
      have hg := imIdx_get.1 hix
      rw [hg]
      unfold mans
      dsimp only
      rw [hz]
      rfl
    | some j => rfl
  obtain ⟨v', h1, h2⟩ := @mlk_sound _ _ _ _ _ _ noLtr _ _ (.map (some mb)) _ _ false R (@Rel.map noLtr _ _ _ _ (show E 0 = some (mb, 0) from rfl)) hml
  rw [@Rel.flat_eq _ noLtr _ _ rfl h2] at h1
  exact h1
/-- a number's place in a map that stays -/
def imKE (t : TypeId) (m k r : Value) : OE :=
  ⟨fun o ρ => match o with
    | .lookup t' q kk false => Nat.beq t' t && pq (ρ q) m && pq (ρ kk) k
    | _ => false, r⟩
theorem imK_ok [Ltr] {X : Kep} {t kt el : TypeId} {m k r : Value} {mb : Nat} {M : IM × Nat} {d : Int} (hu : Tryz.prog.underlying t = some (.map kt el)) (hkt : Tryz.prog.underlying kt = some (.int .i64)) (hz : svp Tryz.prog (Go.zeroValue el) = some (.int .i64 0)) (hm : ∀ (E : Ren) z, Rel E m z → z = .map (some mb)) (hk : ∀ (E : Ren) z, Rel E k z → z = .int .i64 d) (hr : ∀ E : Ren, Rel E r (.int .i64 ((imGet d M.1).getD 0)))
    (h : ∀ w : World, (∀ b, X b → w.heap[b]? = X.ob b) → w.heap[mb]? = some (.map ⟨M.1.map imE⟩ M.2)) : OEOkX Tryz.prog X (imKE t m k r) := by
  intro o ρ ρ' E hρ hf w hx
  simp only [imKE] at hf
  split at hf
  · rename_i t' q kk ho
    simp only [Bool.and_eq_true] at hf
    obtain ⟨⟨h1, h2⟩, h3⟩ := hf
    rw [ho] at hρ
    have rq := hρ q (by simp [Op.operands])
    have rk := hρ kk (by simp [Op.operands])
    rw [pq_eq h2] at rq
    rw [pq_eq h3] at rk
    rw [Nat.eq_of_beq_eq_true h1] at ho
    refine ⟨_, ?_, hr E, fun c e => by rw [ho] at e; cases e⟩
    simp only [execOp, ho, hm E _ rq, hk E _ rk]
    exact run_value (im_lookup hu hkt hz (h w hx))
  · cases hf
/-- which go -/
def goes (V : List (Int × Int)) (x : Int × Int) : Bool := decide (x.1 ≠ 0) && decide (0 < cntD V x.2)
theorem of1_run (b1 b2 : Bool) : SymG [binE .neq (Lt 0) (.int .i64 0) (.bool b1), ldE 67 (Lt 2) (Lt 3), imKE 67 (Lt 3) (Lt 1) (Lt 4), binE .gtr (Lt 4) (.int .i64 0) (.bool b2)] [] [] [] 60 prF [.agg ⟨[Lt 0, Lt 1]⟩, Lt 2] (.bool (b1 && b2)) := by
  cases b1 <;> cases b2 <;> (delta SymG; show _ = _; kernel_rfl)
theorem of1_any {V : List (Int × Int)} {P : Addr} {mb : Nat} {w : World} (x : Int × Int) (_hl : V.length ≤ 1000000) (hc : w.cell? P = some (.map (some mb))) (hm : w.heap[mb]? = some (.map ⟨(cntM V).1.map imE⟩ (cntM V).2)) :
    Calls Tryz.prog prF #[.agg #[.int .i64 x.1, .int .i64 x.2], .pointer (some P)] w fun e w' => e = .returned (.bool (goes V x)) ∧ Below w.heap.size w w' := by
  let L : Ltr := ltrL [.int .i64 x.1, .int .i64 x.2, .pointer (some P), .map (some mb), .int .i64 (cntD V x.2 : Nat)]
  have hle := cntD_le V x.2
  have hw : ∀ w1 : World, (∀ b, (kep w) b → w1.heap[b]? = (kep w).ob b) → w1.heap[mb]? = some (.map ⟨(cntM V).1.map imE⟩ (cntM V).2) := fun w1 k => (k mb (Array.getElem?_eq_some_iff.1 hm).1).trans hm
  exact symGF L 60 (ac (@li L _ _ _ _ _ _ rfl rfl (xi_ne rfl) (@to_flat L _ rfl)).x (ac (@ld_ok L _ _ _ _ _ _ (by kernel_rfl) rfl (@to_ltr L 3 _ rfl rfl) (fun w1 k => cell_keep hc k)) (ac (@imK_ok L _ 67 _ _ (Lt 3) (Lt 1) (Lt 4) mb (cntM V) x.2 Tryz.underlying67 Tryz.underlying3 (by kernel_rfl) (@is_ltr L 3 _ rfl) (@is_ltr L 1 _ rfl) (by rw [cntM_get]; exact @to_ltr L 4 _ rfl rfl) hw)
    (ac (@li L _ _ _ _ _ _ rfl rfl (xi_gt (by show decide ((cntD V x.2 : Int) > 0) = decide (0 < cntD V x.2); rw [Bool.eq_iff_iff]; simp)) (@to_flat L _ rfl)).x an)))) an an an
    (@RelL.cons L _ _ _ _ _ (@Rel.agg L _ _ _ (@RelL.cons L _ _ _ _ _ (@to_ltr L 0 _ rfl rfl _) (@RelL.cons L _ _ _ _ _ (@to_ltr L 1 _ rfl rfl _) (@RelL.nil L _)))) (@RelL.cons L _ _ _ _ _ (@to_ltr L 2 _ rfl rfl _) (@RelL.nil L _))) rfl (of1_run _ _)
end Go.Proofs.YtnggajehngemmaaGreatDoor
/-
  normal's monthsLetAll, weekdaysLetAll.
-/
namespace Go.Proofs.YtnggajehngemmaaGreatDoor
open Go Go.RowKit
theorem li_len [Ltr] {i n c : Nat} {r : Value} {A : Option Addr} (hi : Ltr.v i = some (.slice A n c)) (hr : ∀ E : Ren, Rel E r (.int .i64 n)) : OEOk Tryz.prog (lenE 33 (Lt i) r) :=
  lenE_ok fun o ρ a E w ho ha => by
    have e1 := is_ltr hi E _ ha
    refine ⟨.int .i64 n, ?_, hr E⟩
    simp only [execOp, ho]
    go_simp
theorem ln_len [Ltr] {i n c : Nat} {r : Value} {A : Option Addr} (hi : Ltr.v i = some (.slice A n c)) (hr : ∀ E : Ren, Rel E r (.int .i64 n)) : OEOk Tryz.prog (lenE 34 (Lt i) r) :=
  lenE_ok fun o ρ a E w ho ha => by
    have e1 := is_ltr hi E _ ha
    refine ⟨.int .i64 n, ?_, hr E⟩
    simp only [execOp, ho]
    go_simp
theorem li_el [Ltr] {i j n c d : Nat} {y : Value} {A : Addr} (hi : Ltr.v i = some (.slice (some A) n c)) (hy : ∀ (E : Ren) z, Rel E y z → z = .int .i64 d) (hj : Ltr.v j = some (.pointer (some (A.add d)))) (h : d < n) : OEOk Tryz.prog (iaE 33 (Lt i) y (Lt j)) :=
  iaE_ok fun o ρ a b E w ho ha hb => by
    have e1 := is_ltr hi E _ ha
    have e2 := hy E _ hb
    refine ⟨.pointer (some (A.add d)), ?_, .ltr hj rfl⟩
    simp only [execOp, ho, e1]
    go_simp
abbrev mlF : FuncId := 40
abbrev wlF : FuncId := 41
abbrev ruleA : Value := .agg ⟨[Lt 0, Lt 1, Lt 2, Lt 3, Lt 4, Lt 5, Lt 6, Lt 7]⟩
theorem ml_run1 : SymG [lenE 33 (Lt 4) (Lt 8), binE .neq (Lt 0) (.int .i64 3) (.bool false)] [] [] [] 60 mlF [ruleA] (.bool false) := by delta SymG; show _ = _; kernel_rfl
theorem ml_run2 : SymG [lenE 33 (Lt 4) (Lt 8), binE .neq (Lt 0) (.int .i64 3) (.bool true), binE .eql (Lt 8) (.int .i64 12) (.bool false)] [] [] [] 60 mlF [ruleA] (.bool false) := by delta SymG; show _ = _; kernel_rfl
def mlO (b3 b4 : Bool) : List OE := [lenE 33 (Lt 4) (.int .i64 12), binE .neq (Lt 0) (.int .i64 3) (.bool true), iaE 33 (Lt 4) (.int .i64 0) (Lt 9), ldE 3 (Lt 9) (Lt 10), binE .eql (Lt 10) (.int .i64 1) (.bool b3), iaE 33 (Lt 4) (.int .i64 11) (Lt 11), ldE 3 (Lt 11) (Lt 12), binE .eql (Lt 12) (.int .i64 12) (.bool b4)]
theorem ml_run3 (b3 b4 : Bool) : SymG (mlO b3 b4) [] [] [] 60 mlF [ruleA] (.bool (b3 && b4)) := by cases b3 <;> cases b4 <;> (delta SymG; show _ = _; kernel_rfl)
/-- would a rule let the same days without its months? -/
def mla (f : Int) (M : List Int) : Bool := decide (f ≠ 3) && (decide (M.length = 12) && (decide (M.getD 0 0 = 1) && decide (M.getD 11 0 = 12)))
theorem ml_any {w : World} {f iv cn u : Int} {A : Option Addr} {M : List Int} {c : Nat} {sD sW sP : Value} (h : OwnI w 0 (.slice A M.length c) M) (hD : sgl sD = true) (hW : sgl sW = true) (hP : sgl sP = true) :
    Calls Tryz.prog mlF #[.agg #[.int .i64 f, .int .i64 iv, .int .i64 cn, .int .i64 u, .slice A M.length c, sD, sW, sP]] w fun e w' => e = .returned (.bool (mla f M)) ∧ Below w.heap.size w w' := by
  have args : ∀ l : List Value, @RelL (ltrL ([.int .i64 f, .int .i64 iv, .int .i64 cn, .int .i64 u, .slice A M.length c, sD, sW, sP] ++ l)) (startE 64) [ruleA] [.agg #[.int .i64 f, .int .i64 iv, .int .i64 cn, .int .i64 u, .slice A M.length c, sD, sW, sP]] := fun l => by
    let L : Ltr := ltrL ([.int .i64 f, .int .i64 iv, .int .i64 cn, .int .i64 u, .slice A M.length c, sD, sW, sP] ++ l)
    exact @RelL.cons L _ _ _ _ _ (@Rel.agg L _ _ _ (@RelL.cons L _ _ _ _ _ (@to_ltr L 0 _ rfl rfl _) (@RelL.cons L _ _ _ _ _ (@to_ltr L 1 _ rfl rfl _) (@RelL.cons L _ _ _ _ _ (@to_ltr L 2 _ rfl rfl _) (@RelL.cons L _ _ _ _ _ (@to_ltr L 3 _ rfl rfl _) (@RelL.cons L _ _ _ _ _ (@to_ltr L 4 _ rfl rfl _) (@RelL.cons L _ _ _ _ _ (@to_ltr L 5 _ rfl hD _) (@RelL.cons L _ _ _ _ _ (@to_ltr L 6 _ rfl hW _) (@RelL.cons L _ _ _ _ _ (@to_ltr L 7 _ rfl hP _) (@RelL.nil L _)))))))))) (@RelL.nil L _)
  unfold mla
  cases h1 : decide (f ≠ 3) with
  | false =>
    let L : Ltr := ltrL ([.int .i64 f, .int .i64 iv, .int .i64 cn, .int .i64 u, .slice A M.length c, sD, sW, sP] ++ [.int .i64 M.length])
    exact symGF L 60 (ac (@li_len L 4 _ _ (Lt 8) _ rfl (@to_ltr L 8 _ rfl rfl)).x (ac (@li L _ _ _ _ _ _ rfl rfl (xi_ne h1) (@to_flat L _ rfl)).x an)) an an an (args _) rfl ml_run1
  | true =>
    cases h2 : decide (M.length = 12) with
    | false =>
      let L : Ltr := ltrL ([.int .i64 f, .int .i64 iv, .int .i64 cn, .int .i64 u, .slice A M.length c, sD, sW, sP] ++ [.int .i64 M.length])
      exact symGF L 60 (ac (@li_len L 4 _ _ (Lt 8) _ rfl (@to_ltr L 8 _ rfl rfl)).x (ac (@li L _ _ _ _ _ _ rfl rfl (xi_ne h1) (@to_flat L _ rfl)).x (ac (@li L _ _ _ _ _ _ rfl rfl (xi_eq (by rw [← h2]; rw [Bool.eq_iff_iff]; simp; omega)) (@to_flat L _ rfl)).x an))) an an an (args _) rfl ml_run2
    | true =>
      have h12 := of_decide_eq_true h2
      obtain ⟨A', cap, e, -, -, hI⟩ := h.ints
      cases e
      obtain ⟨ad, rfl, hlt, hc0⟩ := hI 0 (by omega)
      obtain ⟨ad', e', hlt', hc11⟩ := hI 11 (by omega)
      cases e'
      rw [show M[0] = M.getD 0 0 by simp [h12]] at hc0
      rw [show M[11] = M.getD 11 0 by simp [h12]] at hc11
      let L : Ltr := ltrL ([.int .i64 f, .int .i64 iv, .int .i64 cn, .int .i64 u, .slice (some ad) M.length c, sD, sW, sP] ++ [.int .i64 M.length, .pointer (some (ad.add 0)), .int .i64 (M.getD 0 0), .pointer (some (ad.add 11)), .int .i64 (M.getD 11 0)])
      exact symGF L 60 (ac (@li_len L 4 _ _ (.int .i64 12) _ rfl (by rw [h12]; exact @to_flat L _ rfl)).x (ac (@li L _ _ _ _ _ _ rfl rfl (xi_ne h1) (@to_flat L _ rfl)).x (ac (@li_el L 4 9 _ _ 0 _ _ rfl (@is_flat L _ rfl) rfl (by omega)).x (ac (@ld_ok L _ _ _ _ _ _ (by kernel_rfl) rfl (@to_ltr L 10 _ rfl rfl) (fun w1 k => cell_keep hc0 k)) (ac (@li L _ _ _ _ _ _ rfl rfl (xi_eq rfl) (@to_flat L _ rfl)).x
        (ac (@li_el L 4 11 _ _ 11 _ _ rfl (@is_flat L _ rfl) rfl (by omega)).x (ac (@ld_ok L _ _ _ _ _ _ (by kernel_rfl) rfl (@to_ltr L 12 _ rfl rfl) (fun w1 k => cell_keep hc11 k)) (ac (@li L _ _ _ _ _ _ rfl rfl (xi_eq rfl) (@to_flat L _ rfl)).x an)))))))) an an an (args _) rfl (ml_run3 _ _)
def wlO (k : Nat) : List OE := [lenE 34 (Lt 6) (Lt 8), binE .neq (Lt 0) (.int .i64 0) (.bool false), binE .neq (Lt 8) (.int .i64 7) (.bool false)] ++ (List.range (bif Nat.ble 7 k then 7 else k + 1)).flatMap fun (d : Nat) => [imKE 67 (Lt 9) (.int .i64 (d : Nat)) (Lt (10 + d)), binE .eql (Lt (10 + d)) (.int .i64 0) (.bool (Nat.beq d k))]
theorem wl_run1 : SymG [binE .neq (Lt 0) (.int .i64 0) (.bool true)] [] [] [] 60 wlF [ruleA, Lt 9] (.bool false) := by delta SymG; show _ = _; kernel_rfl
theorem wl_run2 : SymG [lenE 34 (Lt 6) (Lt 8), binE .neq (Lt 0) (.int .i64 0) (.bool false), binE .neq (Lt 8) (.int .i64 7) (.bool true)] [] [] [] 60 wlF [ruleA, Lt 9] (.bool false) := by delta SymG; show _ = _; kernel_rfl
theorem k8 {k : Nat} (h : k ≤ 7) : k = 0 ∨ k = 1 ∨ k = 2 ∨ k = 3 ∨ k = 4 ∨ k = 5 ∨ k = 6 ∨ k = 7 := by omega
theorem wl_run3 {k : Nat} (h : k ≤ 7) : SymG (wlO k) [] [] [] 60 wlF [ruleA, Lt 9] (.bool (Nat.beq k 7)) := by
  rcases k8 h with rfl | rfl | rfl | rfl | rfl | rfl | rfl | rfl <;> (delta SymG; show _ = _; kernel_rfl)
/-- .. without its weekdays? every: how often each comes with N 0 -/
def wla (f : Int) (n : Nat) (V : List (Int × Int)) : Bool := decide (f = 0) && (decide (n = 7) && (List.range 7).all fun (d : Nat) => decide (cntD V d ≠ 0))
theorem first_zero (q : Nat → Bool) : ∀ n, ∃ k ≤ n, (∀ d < k, q d = true) ∧ (k < n → q k = false)
  | 0 => ⟨0, Nat.le_refl _, fun d h => absurd h (Nat.not_lt_zero d), fun h => absurd h (Nat.not_lt_zero 0)⟩
  | n + 1 => by
    obtain ⟨k, h1, h2, h3⟩ := first_zero q n
    rcases Nat.lt_or_ge k n with h | h
    · exact ⟨k, by omega, h2, fun _ => h3 h⟩
    · obtain rfl : k = n := by omega
      cases hq : q k with
      | true => exact ⟨k + 1, by omega, fun d hd => by
          rcases Nat.lt_or_ge d k with h | h
          · exact h2 d h
          · obtain rfl : d = k := by omega
            exact hq, fun h => by omega⟩
      | false => exact ⟨k, by omega, h2, fun _ => hq⟩
theorem wl_any {w : World} {f iv cn u : Int} {A : Option Addr} {n c mb : Nat} {V : List (Int × Int)} {sM sD sP : Value} (hM : sgl sM = true) (hD : sgl sD = true) (hP : sgl sP = true) (hm : w.heap[mb]? = some (.map ⟨(cntM V).1.map imE⟩ (cntM V).2)) :
    Calls Tryz.prog wlF #[.agg #[.int .i64 f, .int .i64 iv, .int .i64 cn, .int .i64 u, sM, sD, .slice A n c, sP], .map (some mb)] w fun e w' => e = .returned (.bool (wla f n V)) ∧ Below w.heap.size w w' := by
  let L : Ltr := ltrL ([.int .i64 f, .int .i64 iv, .int .i64 cn, .int .i64 u, sM, sD, .slice A n c, sP] ++ [.int .i64 n, .map (some mb), .int .i64 (cntD V 0), .int .i64 (cntD V 1), .int .i64 (cntD V 2), .int .i64 (cntD V 3), .int .i64 (cntD V 4), .int .i64 (cntD V 5), .int .i64 (cntD V 6)])
  have args : @RelL L (startE 64) [ruleA, Lt 9] [.agg #[.int .i64 f, .int .i64 iv, .int .i64 cn, .int .i64 u, sM, sD, .slice A n c, sP], .map (some mb)] :=
    @RelL.cons L _ _ _ _ _ (@Rel.agg L _ _ _ (@RelL.cons L _ _ _ _ _ (@to_ltr L 0 _ rfl rfl _) (@RelL.cons L _ _ _ _ _ (@to_ltr L 1 _ rfl rfl _) (@RelL.cons L _ _ _ _ _ (@to_ltr L 2 _ rfl rfl _) (@RelL.cons L _ _ _ _ _ (@to_ltr L 3 _ rfl rfl _) (@RelL.cons L _ _ _ _ _ (@to_ltr L 4 _ rfl hM _) (@RelL.cons L _ _ _ _ _ (@to_ltr L 5 _ rfl hD _) (@RelL.cons L _ _ _ _ _ (@to_ltr L 6 _ rfl rfl _) (@RelL.cons L _ _ _ _ _ (@to_ltr L 7 _ rfl hP _) (@RelL.nil L _)))))))))) (@RelL.cons L _ _ _ _ _ (@to_ltr L 9 _ rfl rfl _) (@RelL.nil L _))
  unfold wla
  cases h1 : decide (f = 0) with
  | false => exact symGF L 60 (ac (@li L _ _ _ _ _ _ rfl rfl (xi_ne (by rw [decide_eq_true (of_decide_eq_false h1)])) (@to_flat L _ rfl)).x an) an an an args rfl wl_run1
  | true =>
    have hf := of_decide_eq_true h1
    have hlen : @OEOkX L Tryz.prog (kep w) (lenE 34 (Lt 6) (Lt 8)) := (@ln_len L 6 _ _ (Lt 8) _ rfl (@to_ltr L 8 _ rfl rfl)).x
    have hfe : @OEOkX L Tryz.prog (kep w) (binE .neq (Lt 0) (.int .i64 0) (.bool false)) := (@li L _ _ _ _ _ _ rfl rfl (xi_ne (decide_eq_false (fun h => h hf))) (@to_flat L _ rfl)).x
    cases h2 : decide (n = 7) with
    | false => exact symGF L 60 (ac hlen (ac hfe (ac (@li L _ _ _ _ _ _ rfl rfl (xi_ne (by have := of_decide_eq_false h2; exact decide_eq_true (by omega))) (@to_flat L _ rfl)).x an))) an an an args rfl wl_run2
    | true =>
      have h7 := of_decide_eq_true h2
      obtain ⟨k, hk, k1, k2⟩ := first_zero (fun d => decide (cntD V d ≠ 0)) 7
      have hres : (List.range 7).all (fun (d : Nat) => decide (cntD V d ≠ 0)) = Nat.beq k 7 := by
        rcases Nat.lt_or_ge k 7 with h | h
        · rw [beq_ne (by omega)]
          have := k2 h
          rw [List.all_eq_false]
          exact ⟨k, List.mem_range.2 h, by rw [this]; simp⟩
        · obtain rfl : k = 7 := by omega
          rw [Nat.beq_refl]
          exact List.all_eq_true.2 fun d hd => k1 d (List.mem_range.1 hd)
      rw [hres]
      refine symGF L 60 ?_ an an an args rfl (wl_run3 hk)
      refine ac hlen (ac hfe (ac (@li L _ _ _ _ _ _ rfl rfl (xi_ne (decide_eq_false (by omega))) (@to_flat L _ rfl)).x ?_))
      intro x hx
      obtain ⟨d, hd, hx⟩ := List.mem_flatMap.1 hx
      have hd := List.mem_range.1 hd
      have hdk : d ≤ k ∧ d < 7 := by
        cases hb : Nat.ble 7 k with
        | true => rw [hb] at hd; have := Nat.le_of_ble_eq_true hb; have hd : d < 7 := hd; omega
        | false => rw [hb] at hd; have hd : d < k + 1 := hd
                   have : ¬ 7 ≤ k := fun h => by rw [Nat.ble_eq_true_of_le h] at hb; cases hb
                   omega
      have hv : L.v (10 + d) = some (.int .i64 (cntD V d : Nat)) := by
        rcases k8 (k := d) (by omega) with rfl | rfl | rfl | rfl | rfl | rfl | rfl | rfl <;> first | rfl | omega
      have hq : decide ((cntD V d : Int) = 0) = Nat.beq d k := by
        rcases Nat.lt_or_ge d k with h | h
        · have := of_decide_eq_true (k1 d h)
          rw [beq_ne (by omega)]
          exact decide_eq_false (by omega)
        · obtain rfl : d = k := by omega
          have := of_decide_eq_false (k2 hdk.2)
          rw [Nat.beq_refl]
          exact decide_eq_true (by omega)
      exact ac (p := fun e => @OEOkX L Tryz.prog (kep w) e) (@imK_ok L _ 67 _ _ (Lt 9) (.int .i64 (d : Nat)) (Lt (10 + d)) mb (cntM V) d Tryz.underlying67 Tryz.underlying3 (by kernel_rfl) (@is_ltr L 9 _ rfl) (@is_flat L _ rfl) (by rw [cntM_get]; exact @to_ltr L (10 + d) _ hv rfl) (fun w1 kx => (kx mb (Array.getElem?_eq_some_iff.1 hm).1).trans hm)) (ac (@li L _ _ _ _ _ _ hv rfl (xi_eq hq) (@to_flat L _ rfl)).x an) x hx
end Go.Proofs.YtnggajehngemmaaGreatDoor
