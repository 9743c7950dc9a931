/-
  slices.Compact at weekdays, any: its runs over letters.
-/
import Derived.Test.YtnggajehngemmaaGreatDoorOm2
import Derived.Lib.SlicesCompact
import Derived.Lib.RowBridge
namespace Go.Proofs.YtnggajehngemmaaGreatDoor
open Go Go.RowKit
/-- one after the other, what is as the one ahead left out: of the first j -/
def cpt (V : List (Int × Int)) : Nat → List (Int × Int)
  | 0 => []
  | j + 1 => if 0 < j ∧ V.getD j (0, 0) = V.getD (j - 1) (0, 0) then cpt V j else cpt V j ++ [V.getD j (0, 0)]
def cmd (V : List (Int × Int)) (j : Nat) : List (Int × Int) := cpt V j ++ V.drop (cpt V j).length
abbrev coL (V : List (Int × Int)) (k0 k : Nat) : Ltr := ⟨fun i => [Value.int .i64 k, .int .i64 V.length, .int .i64 (cpt V k).length, .int .i64 (V.getD k (0, 0)).1, .int .i64 (V.getD k (0, 0)).2, .int .i64 (V.getD (k - 1) (0, 0)).1, .int .i64 (V.getD (k - 1) (0, 0)).2, .int .i64 (k + 1 : Nat), .int .i64 ((cpt V k).length + 1 : Nat), .int .i64 (k - k0 : Nat), .int .i64 (V.length - k0 : Nat), .int .i64 (k - k0 + 1 : Nat), .int .i64 (k - k0 - 1 : Nat), .int .i64 (cpt V V.length).length, .int .i64 (k - 1 : Nat)][i]?, fun _ _ => False,
  fun a kk y => (a = 1 ∧ dlR V kk y) ∨ (a = 2 ∧ dlR (cmd V k) kk y) ∨ (a = 3 ∧ dlR (cmd V (k + 1)) kk y) ∨ (a = 4 ∧ dlR (cmd V V.length) kk y) ∨ (a = 5 ∧ dlR (cpt V V.length ++ List.replicate (V.length - (cpt V V.length).length) (0, 0)) kk y),
  fun j kk n c => (j = 1 ∧ n = V.length ∧ c = kk ∧ V.length ≤ c) ∨ (j = 2 ∧ n = V.length - k0) ∨ (j = 3 ∧ n = V.length - (cpt V V.length).length) ∨ (j = 4 ∧ n = (cpt V V.length).length ∧ c = kk),
  fun q o => (q = 0 ∧ o = k * 2) ∨ (q = 1 ∧ o = (k - 1) * 2) ∨ (q = 2 ∧ o = (cpt V k).length * 2), fun j => if j = 2 then k0 * 2 else if j = 3 then (cpt V V.length).length * 2 else 0⟩
/-- the length of the rest letter j -/
def lenS (t j : Nat) (r : Value) : OE :=
  ⟨fun o ρ => match o with
    | .call ⟨.builtin .len, ⟨[a]⟩, ⟨[t']⟩⟩ => Nat.beq t' t && (match ρ a with
      | .complex .f64 _ jj => Nat.beq jj j
      | _ => false)
    | _ => false, r⟩
theorem lenS_ok [Ltr] {t e j N : Nat} {r : Value} (hu : Tryz.prog.underlying t = some (.slice e)) (hj : ∀ k n c, Ltr.s j k n c → n = N) (hr : ∀ E : Ren, Rel E r (.int .i64 N)) : OEOk Tryz.prog (lenS t j r) := by
  intro o ρ ρ' E hρ hf w
  simp only [lenS] at hf
  split at hf
  · rename_i a t' ho
    simp only [Bool.and_eq_true] at hf
    obtain ⟨h2, h4⟩ := hf
    rw [ho] at hρ
    have ra := hρ a (by simp [Op.operands, Call.operands])
    split at h4
    · rename_i i0 jj hx
      rw [hx] at ra
      generalize hy : ρ' a = y at ra
      cases ra with
      | same hf => cases hf
      | @sll _ _ b k n c hE hs =>
      rw [Nat.eq_of_beq_eq_true h4] at hs
      obtain rfl := hj _ _ _ hs
      rw [Nat.eq_of_beq_eq_true h2] at ho
      refine ⟨.int .i64 n, ?_, hr E, fun c e => by rw [ho] at e; cases e⟩
      simp only [execOp, ho, resolve, invoke, pure_bind, Go.builtin]
      refine run_value ?_
      simp [hy, Builtin.len_, Sem.run_bind, run_underlying hu]
      rfl
    · cases h4
  · cases hf
abbrev tN : TypeId := 51
abbrev tNs : TypeId := 34
noncomputable def coB : Code := inLoop (loopOf Tryz.prog cnF 0)
noncomputable def ciB : Code := inLoop (loopOf Tryz.prog cnF 1)
noncomputable def coS : St := ⟨fr 61 [(0, TOK 64 1), (3, Lt 0)], ⟨66, [(64, .tok 1)]⟩, []⟩
noncomputable def coX : St := ⟨fr 61 [(0, TOK 64 1)], ⟨66, [(64, .tok 1)]⟩, []⟩
noncomputable def coY : St := ⟨fr 61 [(2, TOK 64 4)], ⟨66, [(64, .tok 5)]⟩, []⟩
noncomputable def ciS : St := ⟨fr 61 [(0, TOK 64 1), (3, Lt 2), (4, .complex .f64 64 2), (5, Lt 9)], ⟨66, [(64, .tok 2)]⟩, []⟩
noncomputable def ciX : St := ⟨fr 61 [(0, TOK 64 1), (3, Lt 13)], ⟨66, [(64, .tok 4)]⟩, []⟩
def coT0 : Tra := traS [(.int .i64 1, Lt 0)] [(1, 1)] [(1, 1)]
noncomputable def coC0 : CE := ⟨.loop coB, coT0, 66, [], coS, .exit 0, coX⟩
noncomputable def coC1 : CE := ⟨.loop coB, coT0, 66, [], coS, .ret, coY⟩
def ciT0 : Tra := traS [(Lt 0, Lt 2), (.int .i64 1, Lt 9)] [(1, 1), (2, 2)] [(1, 2)]
noncomputable def ciC : CE := ⟨.loop ciB, ciT0, 66, [], ciS, .exit 2, ciX⟩
def coO (b : Bool) : List OE := [lenT tNs 1 (Lt 1), binE .lss (Lt 0) (Lt 1) (.bool true), binE .sub (Lt 0) (.int .i64 1) (Lt 14), eqA .eql tN [Lt 3, Lt 4] [Lt 5, Lt 6] b, binE .add (Lt 0) (.int .i64 1) (Lt 7), iaT tNs 64 1 (Lt 0) 0, iaT tNs 64 1 (Lt 14) 1]
def coM : List ME := [ldA tN 1 0 [Lt 3, Lt 4], ldA tN 1 1 [Lt 5, Lt 6]]
def coO2 : List OE := [slS tNs 64 1 (Lt 0) 2, slS tNs 64 1 (Lt 13) 3, slP tNs 64 1 (Lt 13) 4]
def coTn : Tra := traS [(Lt 7, Lt 0)] [(1, 1)] [(1, 1)]
def coTx : Tra := traS [] [(1, 1)] [(1, 1)]
def coTy : Tra := traS [] [(4, 4)] [(5, 5)]
theorem co_on : ComP (coO false) coM [] (prL []) 60 coB coS .normal coTn 66 coS := by show _ = _; kernel_rfl
theorem co_out : ComP [lenT tNs 1 (Lt 1), binE .lss (Lt 0) (Lt 1) (.bool false)] [] [] (prL []) 60 coB coS (.exit 0) coTx 66 coX := by show _ = _; kernel_rfl
theorem co_eq : ComP (coO true ++ coO2) (coM ++ [clT tNs 3 4 5]) [ciC] (prL []) 90 coB coS .ret coTy 66 coY := by show _ = _; kernel_rfl
def ciO (b : Bool) : List OE := [lenS tNs 2 (Lt 10), binE .lss (Lt 9) (Lt 10) (.bool true), binE .sub (Lt 9) (.int .i64 1) (Lt 12), eqA .neq tN [Lt 3, Lt 4] [Lt 5, Lt 6] b, binE .add (Lt 9) (.int .i64 1) (Lt 11), binE .add (Lt 2) (.int .i64 1) (Lt 8), iaS tNs 64 2 (Lt 9) 0, iaS tNs 64 2 (Lt 12) 1, iaT tNs 64 1 (Lt 2) 2]
def ciM : List ME := [ldA tN 2 0 [Lt 3, Lt 4], ldA tN 2 1 [Lt 5, Lt 6], stA tN 2 2 3 [Lt 3, Lt 4]]
def ciTk : Tra := traS [(Lt 8, Lt 2), (Lt 11, Lt 9)] [(1, 1), (2, 2)] [(3, 2)]
def ciTg : Tra := traS [(Lt 2, Lt 2), (Lt 11, Lt 9)] [(1, 1), (2, 2)] [(2, 2)]
def ciTx : Tra := traS [(Lt 2, Lt 13)] [(1, 1)] [(2, 4)]
theorem ci_keep : ComP (ciO true) ciM [] (prL []) 60 ciB ciS .normal ciTk 66 ciS := by show _ = _; kernel_rfl
theorem ci_go : ComP (ciO false) (ciM.take 2) [] (prL []) 60 ciB ciS .normal ciTg 66 ciS := by show _ = _; kernel_rfl
theorem ci_out : ComP [lenS tNs 2 (Lt 10), binE .lss (Lt 9) (Lt 10) (.bool false)] [] [] (prL []) 60 ciB ciS (.exit 2) ciTx 66 ciX := by show _ = _; kernel_rfl
def coKs (v : Value) (K : RW) : Bool := veqn 2 v (TOK 64 4) && (match look 64 K.h with | some (.tok a) => Nat.beq a 5 | _ => false)
def coKn (v : Value) (K : RW) : Bool := veqn 2 v (TOK 64 1) && (match look 64 K.h with | some (.tok a) => Nat.beq a 1 | _ => false)
theorem co_small : SymK [lenT tNs 1 (Lt 1), binE .lss (Lt 1) (.int .i64 2) (.bool true)] [] [] (prL []) 60 cnF ⟨66, [(64, .tok 1)]⟩ [TOK 64 1] coKn := by delta SymK; show _ = _; kernel_rfl
theorem co_none : SymK [lenT tNs 1 (Lt 1), binE .lss (Lt 1) (.int .i64 2) (.bool false)] [] [coC0] (prL []) 60 cnF ⟨66, [(64, .tok 1)]⟩ [TOK 64 1] coKn := by delta SymK; show _ = _; kernel_rfl
theorem co_some : SymK [lenT tNs 1 (Lt 1), binE .lss (Lt 1) (.int .i64 2) (.bool false)] [] [coC1] (prL []) 60 cnF ⟨66, [(64, .tok 1)]⟩ [TOK 64 1] coKs := by delta SymK; show _ = _; kernel_rfl
end Go.Proofs.YtnggajehngemmaaGreatDoor
/-
  slices.Compact at weekdays, any: its loops.
-/
namespace Go.Proofs.YtnggajehngemmaaGreatDoor
open Go Go.RowKit
section
variable {V : List (Int × Int)}
theorem in_keep {K : List (Int × Int)} {x : Int × Int} {kk t : Nat} {y : Obj} (hlt : K.length < V.length) (hy : RowL (flatN (K ++ V.drop K.length)) t 2 kk y) : ∃ cs, y = .cells cs t (0, 0) ∧ K.length * 2 + 2 ≤ cs.size ∧ RowL (flatN ((K ++ [x]) ++ V.drop (K.length + 1))) t 2 kk (.cells (storeL cs (K.length * 2) [.int .i64 x.1, .int .i64 x.2]) t (0, 0)) := by
  obtain ⟨ys, rfl, h1, h2⟩ := hy
  rw [flatN_len] at h1
  simp only [List.length_append, List.length_drop] at h1
  refine ⟨_, rfl, by simp [flatN_len]; omega, ?_⟩
  obtain ⟨z, W, e0⟩ : ∃ z W, V.drop K.length = z :: W ∧ V.drop (K.length + 1) = W := ⟨_, _, List.drop_eq_getElem_cons hlt, rfl⟩
  have e1 : flatN (K ++ V.drop K.length) ++ ys = flatN K ++ ([.int .i64 z.1, .int .i64 z.2] ++ (flatN W ++ ys)) := by
    rw [e0.1]
    simp [flatN]
  rw [e1, show K.length * 2 = (flatN K).length from (flatN_len _).symm, storeL_app (us := [.int .i64 x.1, .int .i64 x.2]) (b := [.int .i64 z.1, .int .i64 z.2]) _ _ rfl, e0.2]
  refine ⟨ys, by simp [flatN], ?_, h2⟩
  have := congrArg List.length e0.2
  simp only [List.length_drop] at this
  simp only [flatN_len, List.length_append, List.length_singleton]
  omega
theorem in_clear {K : List (Int × Int)} {kk t : Nat} {y : Obj} (_hle : K.length ≤ V.length) (hy : RowL (flatN (K ++ V.drop K.length)) t 2 kk y) : ∃ cs, y = .cells cs t (0, 0) ∧ K.length * 2 + (flatN (List.replicate (V.length - K.length) ((0, 0) : Int × Int))).length ≤ cs.size ∧ RowL (flatN (K ++ List.replicate (V.length - K.length) (0, 0))) t 2 kk (.cells (storeL cs (K.length * 2) (flatN (List.replicate (V.length - K.length) (0, 0)))) t (0, 0)) := by
  obtain ⟨ys, rfl, h1, h2⟩ := hy
  rw [flatN_len] at h1
  simp only [List.length_append, List.length_drop] at h1
  refine ⟨_, rfl, by simp [flatN_len]; omega, ?_⟩
  have e1 : flatN (K ++ V.drop K.length) ++ ys = flatN K ++ (flatN (V.drop K.length) ++ ys) := by simp [flatN]
  rw [e1, show K.length * 2 = (flatN K).length from (flatN_len _).symm, storeL_app _ _ (by simp [flatN_len])]
  refine ⟨ys, by simp [flatN], ?_, h2⟩
  simp only [flatN_len, List.length_append, List.length_replicate]
  omega
theorem cpt_succ {k : Nat} (hk : 0 < k) : cpt V (k + 1) = if V.getD k (0, 0) = V.getD (k - 1) (0, 0) then cpt V k else cpt V k ++ [V.getD k (0, 0)] := by
  rw [cpt]
  simp [hk]
theorem cpt_le (V : List (Int × Int)) : ∀ k, (cpt V k).length ≤ k
  | 0 => Nat.le_refl _
  | k + 1 => by
    have := cpt_le V k
    rw [cpt]
    split
    · omega
    · simp; omega
theorem cpt_all : ∀ {k : Nat}, (∀ j, 0 < j → j < k → V.getD j (0, 0) ≠ V.getD (j - 1) (0, 0)) → k ≤ V.length → cpt V k = V.take k
  | 0, _, _ => by simp [cpt]
  | k + 1, h, hk => by
    rw [cpt, cpt_all (fun j h1 h2 => h j h1 (by omega)) (by omega), take_succ (by omega)]
    split
    · rename_i hd
      exact absurd hd.2 (h k hd.1 (by omega))
    · rfl
theorem cmd_getD {k m : Nat} (hm : (cpt V k).length ≤ m) : (cmd V k).getD m (0, 0) = V.getD m (0, 0) := by
  unfold cmd
  simp only [List.getD_eq_getElem?_getD]
  rw [List.getElem?_append_right hm, List.getElem?_drop, show (cpt V k).length + (m - (cpt V k).length) = m by omega]
theorem cmd_len {k : Nat} (h : (cpt V k).length ≤ V.length) : (cmd V k).length = V.length := by
  unfold cmd
  simp
  omega
variable {k0 k : Nat}
theorem co_o1 {kk : Nat} {y : Obj} {a : Nat} (ha : a = 1) (h : (coL V k0 k).o a kk y) : dlR V kk y := by
  subst ha; rcases h with h | h | h | h | h <;> first | exact h.2 | exact absurd h.1 (by omega)
theorem co_o2 {kk : Nat} {y : Obj} {a : Nat} (ha : a = 2) (h : (coL V k0 k).o a kk y) : dlR (cmd V k) kk y := by
  subst ha; rcases h with h | h | h | h | h <;> first | exact h.2 | exact absurd h.1 (by omega)
theorem co_o3 {kk : Nat} {y : Obj} {a : Nat} (ha : a = 3) (h : (coL V k0 k).o a kk y) : dlR (cmd V (k + 1)) kk y := by
  subst ha; rcases h with h | h | h | h | h <;> first | exact h.2 | exact absurd h.1 (by omega)
theorem co_o4 {kk : Nat} {y : Obj} {a : Nat} (ha : a = 4) (h : (coL V k0 k).o a kk y) : dlR (cmd V V.length) kk y := by
  subst ha; rcases h with h | h | h | h | h <;> first | exact h.2 | exact absurd h.1 (by omega)
theorem co_o5 {kk : Nat} {y : Obj} {a : Nat} (ha : a = 5) (h : (coL V k0 k).o a kk y) : dlR (cpt V V.length ++ List.replicate (V.length - (cpt V V.length).length) (0, 0)) kk y := by
  subst ha; rcases h with h | h | h | h | h <;> first | exact h.2 | exact absurd h.1 (by omega)
theorem co_s1 {kk n c j : Nat} (hj : j = 1) (h : (coL V k0 k).s j kk n c) : n = V.length ∧ c = kk ∧ V.length ≤ c := by
  subst hj; rcases h with h | h | h | h <;> first | exact h.2 | exact absurd h.1 (by omega)
theorem co_s2 {kk n c j : Nat} (hj : j = 2) (h : (coL V k0 k).s j kk n c) : n = V.length - k0 := by
  subst hj; rcases h with h | h | h | h <;> first | exact h.2 | exact absurd h.1 (by omega)
theorem co_s3 {kk n c j : Nat} (hj : j = 3) (h : (coL V k0 k).s j kk n c) : n = V.length - (cpt V V.length).length := by
  subst hj; rcases h with h | h | h | h <;> first | exact h.2 | exact absurd h.1 (by omega)
theorem co_s4 {kk n c j : Nat} (hj : j = 4) (h : (coL V k0 k).s j kk n c) : n = (cpt V V.length).length ∧ c = kk := by
  subst hj; rcases h with h | h | h | h <;> first | exact h.2 | exact absurd h.1 (by omega)
theorem co_p0 {o : Nat} (h : (coL V k0 k).p 0 o) : o = k * 2 := by
  rcases h with h | h | h <;> first | exact h.2 | exact absurd h.1 (by omega)
theorem co_p1 {o : Nat} (h : (coL V k0 k).p 1 o) : o = (k - 1) * 2 := by
  rcases h with h | h | h <;> first | exact h.2 | exact absurd h.1 (by omega)
theorem co_p2 {o : Nat} (h : (coL V k0 k).p 2 o) : o = (cpt V k).length * 2 := by
  rcases h with h | h | h <;> first | exact h.2 | exact absurd h.1 (by omega)
theorem co_go {k' : Nat} {v : List (Value × Value)} {s o : List (Nat × Nat)} (hv : ∀ q ∈ v, ∀ (E E' : Ren) (x : Value), @Rel (coL V k0 k) E q.1 x → @Rel (coL V k0 k') E' q.2 x) (hs : ∀ q ∈ s, q.1 = q.2) (ho : ∀ q ∈ o, ∀ kk y, (coL V k0 k).o q.1 kk y → (coL V k0 k').o q.2 kk y) : TraOk (coL V k0 k) (coL V k0 k') (traS v s o) :=
  traS_ok hv (fun q hq => by rw [hs q hq]; exact ⟨rfl, fun _ _ _ h => h⟩) ho
variable {X : Kep}
theorem ne_bool {x z : Int × Int} (h : x ≠ z) : (x.1 == z.1 && x.2 == z.2) = false := by
  cases hb : (x.1 == z.1 && x.2 == z.2) with
  | false => rfl
  | true =>
    simp only [Bool.and_eq_true, beq_iff_eq] at hb
    exact absurd (Prod.ext hb.1 hb.2) h
theorem co_len : @OEOkX (coL V k0 k) Tryz.prog X (lenT tNs 1 (Lt 1)) := by
  let _ : Ltr := coL V k0 k
  exact (@lenT_ok (coL V k0 k) tNs _ 1 V.length (Lt 1) Tryz.underlying34 (fun _ _ _ h => (co_s1 rfl h).1) (@to_ltr (coL V k0 k) 1 _ rfl rfl)).x
theorem co_hO {b : Bool} (hk0 : 0 < k) (hk : k < V.length) (hl : V.length ≤ 1000000) (hb : ((V.getD k (0, 0)).1 == (V.getD (k - 1) (0, 0)).1 && (V.getD k (0, 0)).2 == (V.getD (k - 1) (0, 0)).2) = b) : ∀ e ∈ coO b, @OEOkX (coL V k0 k) Tryz.prog X e := by
  let L : Ltr := coL V k0 k
  have hs : ∀ k n c, L.s 1 k n c → n = V.length := fun _ _ _ h => (co_s1 rfl h).1
  exact ac co_len (ac (@ll L _ _ _ _ _ _ _ rfl rfl (xi_lt (decide_eq_true (by omega))) (@to_flat L _ rfl)).x (ac (@li L _ _ _ _ _ _ rfl rfl (xi_sub (c := (k - 1 : Nat)) (by omega) (by omega)) (@to_ltr L 14 _ rfl rfl)).x (ac (@eqA_ok L _ _ _ _ _ _ _ (@rl_l L _ _ _ _ rfl (@rl_l L _ _ _ _ rfl (@rl_nil L))) (@rl_l L _ _ _ _ rfl (@rl_l L _ _ _ _ rfl (@rl_nil L))) hb).x
    (ac (@li L _ _ _ _ _ _ rfl rfl (xi_add (c := (k + 1 : Nat)) (by omega) (by omega)) (@to_ltr L 7 _ rfl rfl)).x (ac (@iaT_ok L _ _ 64 1 0 V.length k 2 (Lt 0) Tryz.underlying34 (by kernel_rfl) hs (@is_ltr L 0 _ rfl) hk (.inl ⟨rfl, rfl⟩)).x (ac (@iaT_ok L _ _ 64 1 1 V.length (k - 1) 2 (Lt 14) Tryz.underlying34 (by kernel_rfl) hs (@is_ltr L 14 _ rfl) (by omega) (.inr (.inl ⟨rfl, rfl⟩))).x an))))))
theorem co_hM (hk0 : 0 < k) (hk : k < V.length) : ∀ e ∈ coM, @MEOk (coL V k0 k) Tryz.prog X 64 e := by
  let L : Ltr := coL V k0 k
  exact ac (@ldA_ok L tN 1 0 (k * 2) 2 X 64 [Lt 3, Lt 4] [.int .i64 (V.getD k (0, 0)).1, .int .i64 (V.getD k (0, 0)).2] (by kernel_rfl) (by kernel_rfl) rfl (fun kk y h => rowN_at (co_o1 rfl h) hk) (fun o h => co_p0 h) (fun E => @RelL.cons L E _ _ _ _ (@to_ltr L 3 _ rfl rfl E) (@RelL.cons L E _ _ _ _ (@to_ltr L 4 _ rfl rfl E) (@RelL.nil L E))))
    (ac (@ldA_ok L tN 1 1 ((k - 1) * 2) 2 X 64 [Lt 5, Lt 6] [.int .i64 (V.getD (k - 1) (0, 0)).1, .int .i64 (V.getD (k - 1) (0, 0)).2] (by kernel_rfl) (by kernel_rfl) rfl (fun kk y h => rowN_at (co_o1 rfl h) (by omega)) (fun o h => co_p1 h) (fun E => @RelL.cons L E _ _ _ _ (@to_ltr L 5 _ rfl rfl E) (@RelL.cons L E _ _ _ _ (@to_ltr L 6 _ rfl rfl E) (@RelL.nil L E)))) an)
/-- no two alike -/
theorem co_ce0 {j : Nat} (hl2 : 2 ≤ V.length) (hl : V.length ≤ 1000000) (hd : ∀ j, 0 < j → j < V.length → V.getD j (0, 0) ≠ V.getD (j - 1) (0, 0)) : @CEOk (coL V k0 j) Tryz.prog 64 X 64 coC0 := by
  refine @ce_of Tryz.prog 64 X 64 (coL V k0 j) Nat (fun k => coL V k0 k) (fun _ => coS) (fun k => V.length - k) (fun k => 0 < k ∧ k ≤ V.length) coC0 coB rfl ?_ 1 ⟨by omega, by omega⟩ rfl
    (co_go (v := [(.int .i64 1, Lt 0)]) (s := [(1, 1)]) (o := [(1, 1)]) (ac (fl_go rfl rfl rfl) an) (ac rfl an) (ac (fun kk y h => .inl ⟨rfl, co_o1 rfl h⟩) an)) an
  rintro k ⟨h1, h2⟩ ro kk E a w' h
  let _ : Ltr := coL V k0 k
  rcases Nat.lt_or_ge k V.length with hlt | hge
  · exact r_on (k + 1) (toldW (coL V k0 k) (co_hO h1 hlt hl (ne_bool (hd k h1 hlt))) (co_hM h1 hlt) an (@prL_ok _ _ _ (coL V k0 k) 64 [] an) (co_go (v := [(Lt 7, Lt 0)]) (s := [(1, 1)]) (o := [(1, 1)]) (ac (lt_go rfl) an) (ac rfl an) (ac (fun kk y h => .inl ⟨rfl, co_o1 rfl h⟩) an)) an co_on h) ⟨by omega, by omega⟩ (by show V.length - (k + 1) < V.length - k; omega)
  · exact r_out (by intro h; cases h) (toldW (coL V k0 k) (ac co_len (ac (@ll (coL V k0 k) _ _ _ _ _ _ _ rfl rfl (xi_lt (decide_eq_false (by omega))) (@to_flat (coL V k0 k) _ rfl)).x an)) an an (@prL_ok _ _ _ (coL V k0 k) 64 [] an) (co_go (v := []) (s := [(1, 1)]) (o := [(1, 1)]) an (ac rfl an) (ac (fun kk y h => .inl ⟨rfl, co_o1 rfl h⟩) an)) an co_out h)
end
end Go.Proofs.YtnggajehngemmaaGreatDoor
/-
  slices.Compact at weekdays, any: its contract.
-/
namespace Go.Proofs.YtnggajehngemmaaGreatDoor
open Go Go.RowKit
section
variable {V : List (Int × Int)} {k0 k : Nat} {X : Kep}
theorem cpt_dup (hi : k0 < V.length) (h0 : 0 < k0) (hd : ∀ j, 0 < j → j < k0 → V.getD j (0, 0) ≠ V.getD (j - 1) (0, 0)) (he : V.getD k0 (0, 0) = V.getD (k0 - 1) (0, 0)) : cpt V (k0 + 1) = V.take k0 := by
  rw [cpt_succ h0, if_pos he, cpt_all hd (by omega)]
theorem cpt_lt (h : (cpt V (k0 + 1)).length ≤ k0) : ∀ d, (cpt V (k0 + 1 + d)).length ≤ k0 + d
  | 0 => h
  | d + 1 => by
    have := cpt_lt h d
    rw [show k0 + 1 + (d + 1) = k0 + 1 + d + 1 by omega, cpt_succ (by omega)]
    split
    · omega
    · simp; omega
theorem ci_hO {b : Bool} (h1 : k0 < k) (hk : k < V.length) (hc : (cpt V k).length < k) (hl : V.length ≤ 1000000) (hb : (!((V.getD k (0, 0)).1 == (V.getD (k - 1) (0, 0)).1 && (V.getD k (0, 0)).2 == (V.getD (k - 1) (0, 0)).2)) = b) : ∀ e ∈ ciO b, @OEOkX (coL V k0 k) Tryz.prog X e := by
  let L : Ltr := coL V k0 k
  have hs2 : ∀ k n c, L.s 2 k n c → n = V.length - k0 := fun _ _ _ h => co_s2 rfl h
  have hs : ∀ k n c, L.s 1 k n c → n = V.length := fun _ _ _ h => (co_s1 rfl h).1
  exact ac (@lenS_ok L tNs _ 2 (V.length - k0) (Lt 10) Tryz.underlying34 hs2 (@to_ltr L 10 _ rfl rfl)).x (ac (@ll L _ _ _ _ _ _ _ rfl rfl (xi_lt (decide_eq_true (by omega))) (@to_flat L _ rfl)).x (ac (@li L _ _ _ _ _ _ rfl rfl (xi_sub (c := (k - k0 - 1 : Nat)) (by omega) (by omega)) (@to_ltr L 12 _ rfl rfl)).x (ac (@neA_ok L _ _ _ _ _ _ _ (@rl_l L _ _ _ _ rfl (@rl_l L _ _ _ _ rfl (@rl_nil L))) (@rl_l L _ _ _ _ rfl (@rl_l L _ _ _ _ rfl (@rl_nil L))) hb).x
    (ac (@li L _ _ _ _ _ _ rfl rfl (xi_add (c := (k - k0 + 1 : Nat)) (by omega) (by omega)) (@to_ltr L 11 _ rfl rfl)).x (ac (@li L _ _ _ _ _ _ rfl rfl (xi_add (c := ((cpt V k).length + 1 : Nat)) (by omega) (by omega)) (@to_ltr L 8 _ rfl rfl)).x
    (ac (@iaS_ok L _ _ 64 2 0 (V.length - k0) (k - k0) 2 (k0 * 2) (Lt 9) Tryz.underlying34 (by kernel_rfl) hs2 (@is_ltr L 9 _ rfl) (by omega) rfl (.inl ⟨rfl, by omega⟩)).x (ac (@iaS_ok L _ _ 64 2 1 (V.length - k0) (k - k0 - 1) 2 (k0 * 2) (Lt 12) Tryz.underlying34 (by kernel_rfl) hs2 (@is_ltr L 12 _ rfl) (by omega) rfl (.inr (.inl ⟨rfl, by omega⟩))).x
    (ac (@iaT_ok L _ _ 64 1 2 V.length (cpt V k).length 2 (Lt 2) Tryz.underlying34 (by kernel_rfl) hs (@is_ltr L 2 _ rfl) (by omega) (.inr (.inr ⟨rfl, rfl⟩))).x an))))))))
theorem ci_ld0 (hk : k < V.length) (hc : (cpt V k).length < k) : @MEOk (coL V k0 k) Tryz.prog X 64 (ldA tN 2 0 [Lt 3, Lt 4]) := by
  let L : Ltr := coL V k0 k
  exact @ldA_ok L tN 2 0 (k * 2) 2 X 64 [Lt 3, Lt 4] [.int .i64 (V.getD k (0, 0)).1, .int .i64 (V.getD k (0, 0)).2] (by kernel_rfl) (by kernel_rfl) rfl (fun kk y h => by have := rowN_at (co_o2 rfl h) (k := k) (by rw [cmd_len (by omega)]; exact hk); rwa [cmd_getD (by omega)] at this) (fun o h => co_p0 h) (fun E => @RelL.cons L E _ _ _ _ (@to_ltr L 3 _ rfl rfl E) (@RelL.cons L E _ _ _ _ (@to_ltr L 4 _ rfl rfl E) (@RelL.nil L E)))
theorem ci_ld1 (hk : k < V.length) (hc : (cpt V k).length < k) : @MEOk (coL V k0 k) Tryz.prog X 64 (ldA tN 2 1 [Lt 5, Lt 6]) := by
  let L : Ltr := coL V k0 k
  exact @ldA_ok L tN 2 1 ((k - 1) * 2) 2 X 64 [Lt 5, Lt 6] [.int .i64 (V.getD (k - 1) (0, 0)).1, .int .i64 (V.getD (k - 1) (0, 0)).2] (by kernel_rfl) (by kernel_rfl) rfl (fun kk y h => by have := rowN_at (co_o2 rfl h) (k := k - 1) (by rw [cmd_len (by omega)]; omega); rwa [cmd_getD (by omega)] at this) (fun o h => co_p1 h) (fun E => @RelL.cons L E _ _ _ _ (@to_ltr L 5 _ rfl rfl E) (@RelL.cons L E _ _ _ _ (@to_ltr L 6 _ rfl rfl E) (@RelL.nil L E)))
theorem ci_st (h0 : 0 < k) (hk : k < V.length) (hc : (cpt V k).length < k) (hne : V.getD k (0, 0) ≠ V.getD (k - 1) (0, 0)) : @MEOk (coL V k0 k) Tryz.prog X 64 (stA tN 2 2 3 [Lt 3, Lt 4]) := by
  let L : Ltr := coL V k0 k
  exact @stA_ok L tN 2 2 3 ((cpt V k).length * 2) 2 X [Lt 3, Lt 4] [.int .i64 (V.getD k (0, 0)).1, .int .i64 (V.getD k (0, 0)).2] (by kernel_rfl) rfl (fun o h => co_p2 h) (@rl_l L _ _ _ _ rfl (@rl_l L _ _ _ _ rfl (@rl_nil L))) rfl (fun u hu c e => by simp at hu; rcases hu with h | h <;> (rw [h] at e; cases e)) (fun kk y h => by
    obtain ⟨cs, g1, g2, g3⟩ := in_keep (V := V) (K := cpt V k) (x := V.getD k (0, 0)) (by omega) (co_o2 rfl h)
    refine ⟨cs, _, g1, g2, .inr (.inr (.inl ⟨rfl, ?_⟩))⟩
    show RowL (flatN (cmd V (k + 1))) _ 2 kk _
    unfold cmd
    rw [cpt_succ h0, if_neg hne, List.length_append, List.length_singleton]
    exact g3)
theorem ci_ce (hl : V.length ≤ 1000000) (hi : k0 < V.length) (h0 : 0 < k0) (hd : ∀ j, 0 < j → j < k0 → V.getD j (0, 0) ≠ V.getD (j - 1) (0, 0)) (he : V.getD k0 (0, 0) = V.getD (k0 - 1) (0, 0)) : @CEOk (coL V k0 k0) Tryz.prog 64 X 64 ciC := by
  have hc0 := cpt_dup hi h0 hd he
  have hcl : (cpt V (k0 + 1)).length = k0 := by rw [hc0, List.length_take, Nat.min_eq_left (by omega)]
  have hm0 : cmd V (k0 + 1) = V := by unfold cmd; rw [hcl, hc0, List.take_append_drop]
  have hcc : ∀ k, k0 < k → (cpt V k).length < k := fun k hk => by
    have := cpt_lt (Nat.le_of_eq hcl) (k - (k0 + 1))
    rw [show k0 + 1 + (k - (k0 + 1)) = k by omega] at this
    omega
  refine @ce_of Tryz.prog 64 X 64 (coL V k0 k0) Nat (fun k => coL V k0 k) (fun _ => ciS) (fun k => V.length - k) (fun k => k0 < k ∧ k ≤ V.length) ciC ciB rfl ?_ (k0 + 1) ⟨by omega, by omega⟩ rfl
    (co_go (v := [(Lt 0, Lt 2), (.int .i64 1, Lt 9)]) (s := [(1, 1), (2, 2)]) (o := [(1, 2)]) (ac (lt_go (by show some (Value.int .i64 (k0 : Int)) = some (.int .i64 ((cpt V (k0 + 1)).length : Int)); rw [hcl])) (ac (fl_go rfl rfl (by show some (Value.int .i64 ((k0 + 1 - k0 : Nat) : Int)) = _; rw [Nat.add_sub_cancel_left]; rfl)) an)) (ac rfl (ac rfl an)) (ac (fun kk y h => .inr (.inl ⟨rfl, by rw [hm0]; exact co_o1 rfl h⟩)) an)) an
  rintro k ⟨h1, h2⟩ ro kk E a w' h
  let _ : Ltr := coL V k0 k
  have hc := hcc k h1
  rcases Nat.lt_or_ge k V.length with hlt | hge
  · have e11 : some (Value.int .i64 ((k - k0 + 1 : Nat) : Int)) = some (.int .i64 ((k + 1 - k0 : Nat) : Int)) := by rw [show k - k0 + 1 = k + 1 - k0 by omega]
    by_cases hne : V.getD k (0, 0) = V.getD (k - 1) (0, 0)
    · have hcs : cpt V (k + 1) = cpt V k := by rw [cpt_succ (by omega), if_pos hne]
      exact r_on (k + 1) (toldW (coL V k0 k) (ci_hO h1 hlt hc hl (by rw [hne]; simp)) (ac (ci_ld0 hlt hc) (ac (ci_ld1 hlt hc) an)) an (@prL_ok _ _ _ (coL V k0 k) 64 [] an) (co_go (v := [(Lt 2, Lt 2), (Lt 11, Lt 9)]) (s := [(1, 1), (2, 2)]) (o := [(2, 2)]) (ac (lt_go (by show some (Value.int .i64 ((cpt V k).length : Int)) = some (.int .i64 ((cpt V (k + 1)).length : Int)); rw [hcs])) (ac (lt_go e11) an)) (ac rfl (ac rfl an)) (ac (fun kk y h => .inr (.inl ⟨rfl, by rw [show cmd V (k + 1) = cmd V k by unfold cmd; rw [hcs]]; exact co_o2 rfl h⟩)) an)) an ci_go h) ⟨by omega, by omega⟩ (by show V.length - (k + 1) < V.length - k; omega)
    · have hcs : (cpt V (k + 1)).length = (cpt V k).length + 1 := by rw [cpt_succ (by omega), if_neg hne]; simp
      exact r_on (k + 1) (toldW (coL V k0 k) (ci_hO h1 hlt hc hl (by rw [ne_bool hne]; rfl)) (ac (ci_ld0 hlt hc) (ac (ci_ld1 hlt hc) (ac (ci_st (by omega) hlt hc hne) an))) an (@prL_ok _ _ _ (coL V k0 k) 64 [] an) (co_go (v := [(Lt 8, Lt 2), (Lt 11, Lt 9)]) (s := [(1, 1), (2, 2)]) (o := [(3, 2)]) (ac (lt_go (by show some (Value.int .i64 (((cpt V k).length + 1 : Nat) : Int)) = some (.int .i64 ((cpt V (k + 1)).length : Int)); rw [hcs])) (ac (lt_go e11) an)) (ac rfl (ac rfl an)) (ac (fun kk y h => .inr (.inl ⟨rfl, co_o3 rfl h⟩)) an)) an ci_keep h) ⟨by omega, by omega⟩ (by show V.length - (k + 1) < V.length - k; omega)
  · obtain rfl : k = V.length := Nat.le_antisymm h2 hge
    exact r_out (by intro h; cases h) (toldW (coL V k0 V.length) (ac (@lenS_ok (coL V k0 V.length) tNs _ 2 (V.length - k0) (Lt 10) Tryz.underlying34 (fun _ _ _ h => co_s2 rfl h) (@to_ltr (coL V k0 V.length) 10 _ rfl rfl)).x (ac (@ll (coL V k0 V.length) _ _ _ _ _ _ _ rfl rfl (xi_lt (decide_eq_false (by omega))) (@to_flat (coL V k0 V.length) _ rfl)).x an)) an an (@prL_ok _ _ _ (coL V k0 V.length) 64 [] an) (co_go (v := [(Lt 2, Lt 13)]) (s := [(1, 1)]) (o := [(2, 4)]) (ac (lt_go rfl) an) (ac rfl an) (ac (fun kk y h => .inr (.inr (.inr (.inl ⟨rfl, co_o2 rfl h⟩)))) an)) an ci_out h)
theorem co_ce1 {j : Nat} (hl : V.length ≤ 1000000) (hi : k0 < V.length) (h0 : 0 < k0) (hd : ∀ j, 0 < j → j < k0 → V.getD j (0, 0) ≠ V.getD (j - 1) (0, 0)) (he : V.getD k0 (0, 0) = V.getD (k0 - 1) (0, 0)) : @CEOk (coL V k0 j) Tryz.prog 64 X 64 coC1 := by
  have hc0 := cpt_dup hi h0 hd he
  have hcl : (cpt V (k0 + 1)).length = k0 := by rw [hc0, List.length_take, Nat.min_eq_left (by omega)]
  have hcN : (cpt V V.length).length < V.length := by
    have := cpt_lt (Nat.le_of_eq hcl) (V.length - (k0 + 1))
    rw [show k0 + 1 + (V.length - (k0 + 1)) = V.length by omega] at this
    omega
  refine @ce_of Tryz.prog 64 X 64 (coL V k0 j) Nat (fun k => coL V k0 k) (fun _ => coS) (fun k => V.length - k) (fun k => 0 < k ∧ k ≤ k0) coC1 coB rfl ?_ 1 ⟨by omega, by omega⟩ rfl
    (co_go (v := [(.int .i64 1, Lt 0)]) (s := [(1, 1)]) (o := [(1, 1)]) (ac (fl_go rfl rfl rfl) an) (ac rfl an) (ac (fun kk y h => .inl ⟨rfl, co_o1 rfl h⟩) an)) an
  rintro k ⟨h1, h2⟩ ro kk E a w' h
  rcases Nat.lt_or_ge k k0 with hlt | hge
  · let _ : Ltr := coL V k0 k
    exact r_on (k + 1) (toldW (coL V k0 k) (co_hO h1 (by omega) hl (ne_bool (hd k h1 hlt))) (co_hM h1 (by omega)) an (@prL_ok _ _ _ (coL V k0 k) 64 [] an) (co_go (v := [(Lt 7, Lt 0)]) (s := [(1, 1)]) (o := [(1, 1)]) (ac (lt_go rfl) an) (ac rfl an) (ac (fun kk y h => .inl ⟨rfl, co_o1 rfl h⟩) an)) an co_on h) ⟨by omega, by omega⟩ (by show V.length - (k + 1) < V.length - k; omega)
  · obtain rfl : k = k0 := by omega
    let L : Ltr := coL V k k
    have hs1 : ∀ kk n c, L.s 1 kk n c → n = V.length ∧ V.length ≤ c := fun _ _ _ h => ⟨(co_s1 rfl h).1, (co_s1 rfl h).2.2⟩
    have hO : ∀ e ∈ coO true ++ coO2, @OEOkX L Tryz.prog X e := by
      intro e hm
      rcases List.mem_append.1 hm with hm | hm
      · exact co_hO h1 hi hl (by rw [he]; simp) e hm
      · exact ac (p := fun e => @OEOkX L Tryz.prog X e) (@slS_ok L tNs _ 64 1 2 V.length k 2 (Lt 0) Tryz.underlying34 (by kernel_rfl) hs1 (@is_ltr L 0 _ rfl) hi rfl (fun kk n c _ => .inr (.inl ⟨rfl, rfl⟩))).x (ac (@slS_ok L tNs _ 64 1 3 V.length (cpt V V.length).length 2 (Lt 13) Tryz.underlying34 (by kernel_rfl) hs1 (@is_ltr L 13 _ rfl) hcN rfl (fun kk n c _ => .inr (.inr (.inl ⟨rfl, rfl⟩)))).x
          (ac (@slP_ok L tNs _ 64 1 4 V.length (cpt V V.length).length 2 (Lt 13) Tryz.underlying34 (by kernel_rfl) hs1 (@is_ltr L 13 _ rfl) (by omega) (by omega) (fun kk n c h => .inr (.inr (.inr ⟨rfl, rfl, (co_s1 rfl h).2.1⟩)))).x an)) e hm
    have hM : ∀ e ∈ coM ++ [clT tNs 3 4 5], @MEOk L Tryz.prog X 64 e := by
      obtain ⟨f1, f2⟩ := flatN_single (List.replicate (V.length - (cpt V V.length).length) (0, 0))
      intro e hm
      rcases List.mem_append.1 hm with hm | hm
      · exact co_hM h1 hi e hm
      · exact ac (p := fun e => @MEOk L Tryz.prog X 64 e) (@clT_ok L tNs _ 3 4 5 ((cpt V V.length).length * 2) (V.length - (cpt V V.length).length) _ (.agg #[.int .i64 0, .int .i64 0]) _ Tryz.underlying34 (by kernel_rfl) (zeros_list _) (by omega) rfl (fun kk n c h => co_s3 rfl h) f1 f2 (fun kk y h => by
          obtain ⟨cs, g1, g2, g3⟩ := in_clear (V := V) (K := cpt V V.length) (by omega) (co_o4 rfl h)
          exact ⟨cs, _, g1, g2, .inr (.inr (.inr (.inr ⟨rfl, g3⟩)))⟩)) an e hm
    exact r_out (by intro h; cases h) (toldW L hO hM (ac (ci_ce hl hi h1 hd he) an) (@prL_ok _ _ _ L 64 [] an) (co_go (v := []) (s := [(4, 4)]) (o := [(5, 5)]) an (ac rfl an) (ac (fun kk y h => .inr (.inr (.inr (.inr ⟨rfl, co_o5 rfl h⟩)))) an)) an co_eq h)
end
end Go.Proofs.YtnggajehngemmaaGreatDoor
/-
  slices.Compact at weekdays, any: what it leaves.
-/
namespace Go.Proofs.YtnggajehngemmaaGreatDoor
open Go Go.RowKit
theorem first_dup (V : List (Int × Int)) : ∀ n, (∀ j, 0 < j → j < n → V.getD j (0, 0) ≠ V.getD (j - 1) (0, 0)) ∨ ∃ k, 0 < k ∧ k < n ∧ (∀ j, 0 < j → j < k → V.getD j (0, 0) ≠ V.getD (j - 1) (0, 0)) ∧ V.getD k (0, 0) = V.getD (k - 1) (0, 0)
  | 0 => .inl fun j _ h => absurd h (Nat.not_lt_zero j)
  | n + 1 => by
    rcases first_dup V n with h | ⟨k, h1, h2, h3⟩
    · by_cases hn : 0 < n ∧ V.getD n (0, 0) = V.getD (n - 1) (0, 0)
      · exact .inr ⟨n, hn.1, by omega, h, hn.2⟩
      · refine .inl fun j h1 h2 => ?_
        rcases Nat.lt_or_ge j n with h3 | h3
        · exact h j h1 h3
        · obtain rfl : j = n := by omega
          exact fun e => hn ⟨h1, e⟩
    · exact .inr ⟨k, h1, by omega, h3⟩
/-- one after the other, what is as the one ahead left out -/
def cptF (V : List (Int × Int)) : List (Int × Int) := cpt V V.length
theorem compactN_any {w : World} {base : Nat} {v : Value} {V : List (Int × Int)} (h : OwnN w base v V) (hl : V.length ≤ 1000000) :
    Calls Tryz.prog cnF #[v] w fun e w' => ∃ A c, v = .slice A V.length c ∧ e = .returned (.slice A (cptF V).length c) ∧ OwnN w' base (.slice A (cptF V).length c) (cptF V) ∧ Kp (kepV w v) w w' := by
  have hv : (v = .slice none 0 0 ∧ V.length = 0) ∨ ∃ b k y, v = .slice (some ⟨b, 0, none⟩) V.length k ∧ V.length ≤ k ∧ base ≤ b ∧ w.heap[b]? = some y ∧ dlR V k y := by
    rcases h.2 with ⟨rfl, hn⟩ | ⟨g, cap, cur, rfl, hb, hg, h1, h2, h3, h4⟩
    · exact .inl ⟨rfl, hn⟩
    · exact .inr ⟨g, cap, _, rfl, h1, hb, hg, RowL.of h3 h4 h1 h2⟩
  have start : ∀ k0 k, @Rep (coL V k0 k) (kepV w v) 64 (startV w v) ⟨66, [(64, .tok 1)]⟩ w ∧ @Rel (coL V k0 k) (startV w v) (TOK 64 1) v := by
    intro k0 k
    rcases hv with ⟨rfl, hn⟩ | ⟨b, kk, y, rfl, hle, hb, hy, hr⟩
    · obtain rfl : V = [] := List.eq_nil_of_length_eq_zero hn
      exact @rep_startN (coL [] k0 k) w 1 (.inl ⟨rfl, rfl, rfl, Nat.le_refl _⟩)
    · exact ⟨@rep_startB (coL V k0 k) w b kk 1 y hy (.inl ⟨rfl, hr⟩), @Rel.tk (coL V k0 k) _ _ _ _ _ _ _ _ startB_64 startB_65 (.inl ⟨rfl, rfl, rfl, hle⟩)⟩
  have args : ∀ k0 k, @RelL (coL V k0 k) (startV w v) [TOK 64 1] [v] := fun k0 k => @RelL.cons (coL V k0 k) _ _ _ _ _ (start k0 k).2 (@RelL.nil (coL V k0 k) _)
  have same : ∀ {k0 k : Nat} {F : Ren} {vv u : Value} {K1 : RW} {w' : World}, cptF V = V → coKn vv K1 = true → Ext (startV w v) F → @Rep (coL V k0 k) (kepV w v) 64 F K1 w' → @Rel (coL V k0 k) F vv u → Kp (kepV w v) w w' →
      ∃ A c, v = .slice A V.length c ∧ (Ending.returned u) = .returned (.slice A (cptF V).length c) ∧ OwnN w' base (.slice A (cptF V).length c) (cptF V) ∧ Kp (kepV w v) w w' := by
    intro k0 k F vv u K1 w' hV hk x R1 ru k1
    rw [hV]
    unfold coKn at hk
    simp only [Bool.and_eq_true] at hk
    obtain ⟨h1, h2⟩ := hk
    obtain rfl := @veqn_eq noLtr 2 _ _ h1
    split at h2
    · rename_i a ha
      obtain rfl := Nat.eq_of_beq_eq_true h2
      rcases hv with ⟨rfl, hn⟩ | ⟨b, kk, y, rfl, hle, hb, hy, hr⟩
      · cases ru with
        | same hf => cases hf
        | @tk _ _ b k n c f hE hq hs => rw [x 65 _ Ren.at] at hq; cases hq
        | tkn hq hs =>
          obtain rfl : V = [] := List.eq_nil_of_length_eq_zero hn
          exact ⟨none, 0, rfl, rfl, OwnN.nil _ _, k1⟩
      · cases ru with
        | same hf => cases hf
        | tkn hq hs => rw [x 65 _ startB_65] at hq; cases hq
        | @tk _ _ b2 k2 n c f hE hq hs =>
          have e64 := x 64 _ startB_64
          rw [hE] at e64
          obtain ⟨rfl, rfl⟩ := Prod.mk.inj (Option.some.inj e64)
          obtain ⟨y', hy', ho'⟩ := @Rep.oke (coL V k0 k) _ _ _ _ _ R1 _ _ _ _ ha hE
          obtain ⟨rfl, rfl, -⟩ := co_s1 rfl hs
          exact ⟨_, _, rfl, rfl, own_row rfl hb hy' (co_o1 rfl ho'), k1⟩
    · cases h2
  rcases Nat.lt_or_ge V.length 2 with hsm | hl2
  · have hV : cptF V = V := by unfold cptF; rw [cpt_all (fun j h1 h2 => absurd h2 (by omega)) (Nat.le_refl _), List.take_length]
    let L : Ltr := coL V 0 0
    refine (symK L 60 (ac co_len (ac (@li L _ _ _ _ _ _ rfl rfl (xi_lt (decide_eq_true (by omega))) (@to_flat L _ rfl)).x an)) an an (@prL_ok _ _ _ L 64 [] an) (start 0 0).1 startV_G (args 0 0) co_small).mono ?_
    rintro e w' ⟨u, F, vv, K1, rfl, hk, x, R1, ru, k1⟩
    exact same hV hk x R1 ru k1
  · rcases first_dup V V.length with hd | ⟨k0, h0, hi, hd, he⟩
    · have hV : cptF V = V := by unfold cptF; rw [cpt_all hd (Nat.le_refl _), List.take_length]
      let L : Ltr := coL V 0 0
      refine (symK L 60 (ac co_len (ac (@li L _ _ _ _ _ _ rfl rfl (xi_lt (decide_eq_false (by omega))) (@to_flat L _ rfl)).x an)) an (ac (co_ce0 hl2 hl hd) an) (@prL_ok _ _ _ L 64 [] an) (start 0 0).1 startV_G (args 0 0) co_none).mono ?_
      rintro e w' ⟨u, F, vv, K1, rfl, hk, x, R1, ru, k1⟩
      exact same hV hk x R1 ru k1
    · let L : Ltr := coL V k0 0
      refine (symK L 60 (ac co_len (ac (@li L _ _ _ _ _ _ rfl rfl (xi_lt (decide_eq_false (by omega))) (@to_flat L _ rfl)).x an)) an (ac (co_ce1 hl hi h0 hd he) an) (@prL_ok _ _ _ L 64 [] an) (start k0 0).1 startV_G (args k0 0) co_some).mono ?_
      rintro e w' ⟨u, F, vv, K1, rfl, hk, x, R1, ru, k1⟩
      unfold coKs at hk
      simp only [Bool.and_eq_true] at hk
      obtain ⟨h1, h2⟩ := hk
      obtain rfl := @veqn_eq noLtr 2 _ _ h1
      split at h2
      · rename_i a ha
        obtain rfl := Nat.eq_of_beq_eq_true h2
        rcases hv with ⟨rfl, hn⟩ | ⟨b, kk, y, rfl, hle2, hb, hy, hr⟩
        · omega
        · cases ru with
          | same hf => cases hf
          | tkn hq hs => rw [x 65 _ startB_65] at hq; cases hq
          | @tk _ _ b2 k2 n c f hE hq hs =>
            have e64 := x 64 _ startB_64
            rw [hE] at e64
            obtain ⟨rfl, rfl⟩ := Prod.mk.inj (Option.some.inj e64)
            obtain ⟨y', hy', ho'⟩ := @Rep.oke L _ _ _ _ _ R1 _ _ _ _ ha hE
            have ho' := co_o5 rfl ho'
            obtain ⟨rfl, rfl⟩ := co_s4 rfl hs
            have hcl : (cpt V V.length).length ≤ V.length := cpt_le V V.length
            refine ⟨_, _, rfl, rfl, own_row rfl hb hy' ?_, k1⟩
            obtain ⟨ys, rfl, q1, q2⟩ := ho'
            refine ⟨flatN (List.replicate (V.length - (cpt V V.length).length) (0, 0)) ++ ys, ?_, ?_, q2⟩
            · simp [flatN, cptF]
            · simp only [List.length_append, flatN_len, List.length_replicate, cptF] at q1 ⊢
              omega
      · cases h2
end Go.Proofs.YtnggajehngemmaaGreatDoor
/-
  normal.Of: its run over letters.
-/
namespace Go.Proofs.YtnggajehngemmaaGreatDoor
open Go Go.RowKit
abbrev ofF : FuncId := 14
abbrev tdF : FuncId := 12
abbrev tiF : FuncId := 31
abbrev tnF : FuncId := 33
abbrev kCmp : Value := .func (.func 32) ⟨[]⟩ ⟨[]⟩
abbrev kOrd : Value := .func (.func 34) ⟨[]⟩ ⟨[]⟩
/-- the closure over a map of which letter q says something -/
abbrev clP (q : Nat) : Value := .func (.func prF) ⟨[]⟩ ⟨[.tuple ⟨[.map (some q)]⟩]⟩
/-- list m, some taken out in place: list m' -/
def delP (g : FuncId) (m q m' : Nat) : Prim := fun f args H => match args with
  | [v, cl] => bif Nat.beq f g && isTok H m v && tq H 4 (clP q) cl then (match v with
    | .func (.via i ⟨[]⟩ _ false) ⟨[]⟩ ⟨[]⟩ => bif Nat.ble 64 i then some (TOK i m', { H with h := upd i (.tok m') H.h }) else none
    | _ => none) else none
  | _ => none
/-- the rule's fields, its lists as letters -/
abbrev ofA : Value := .agg ⟨[Lt 0, Lt 1, Lt 2, Lt 3, Lt 4, Lt 5, Lt 6, Lt 7]⟩
abbrev tdP : List Prim := [tokP tiF [Lt 4, kCmp] (TOK 0 1), tokP tiF [Lt 5, kCmp] (TOK 0 2), tokP tnF [Lt 6, kOrd] (TOK 0 3), tokP tiF [Lt 7, kCmp] (TOK 0 4)]
theorem td_run : SymT [] [] [] (anyP tdP) 60 tdF [ofA] [Lt 0, Lt 1, Lt 2, Lt 3, TOK 0 1, TOK 0 2, TOK 0 3, TOK 0 4] := by delta SymT; show _ = _; kernel_rfl
def ofPm (b1 b2 dm : Bool) : List Prim := tdP ++ [newT cvF [TOK 0 3] (fun n => .map (some n)) 9, delP dlF 3 9 5, flT mlF [.agg ⟨[Lt 0, Lt 1, Lt 2, Lt 3, TOK 0 1, TOK 0 2, TOK 0 5, TOK 0 4]⟩] (.bool b1), flT wlF [.agg ⟨[Lt 0, Lt 1, Lt 2, Lt 3, bif dm then .slice none 0 0 else TOK 0 1, TOK 0 2, TOK 0 5, TOK 0 4]⟩, .map (some 9)] (.bool b2)]
def ofO (bP bD bW bM : Bool) : List OE := [lenT 33 4 (Lt 11), binE .eql (Lt 11) (.int .i64 0) (.bool bP), lenT 33 2 (Lt 9), binE .gtr (Lt 9) (.int .i64 0) (.bool bD), lenT 34 5 (Lt 10), binE .gtr (Lt 10) (.int .i64 0) (.bool bW), lenT 33 1 (Lt 8), binE .gtr (Lt 8) (.int .i64 0) (.bool bM)]
def ofDm (b1 bP bD bW : Bool) : Bool := b1 && (bP || bD || bW)
def ofDw (b2 bP bD bM dm : Bool) : Bool := b2 && (bP || (!dm && bM) || bD)
def ofR (dm dw : Bool) : List Value := [Lt 0, Lt 1, Lt 2, Lt 3, bif dm then .slice none 0 0 else TOK 0 1, TOK 0 2, bif dw then .slice none 0 0 else TOK 0 5, TOK 0 4]
def OfRun (b1 b2 bP bD bW bM : Bool) : Prop := SymT (ofO bP bD bW bM) [] [] (anyP (ofPm b1 b2 (ofDm b1 bP bD bW))) 60 ofF [ofA] (ofR (ofDm b1 bP bD bW) (ofDw b2 bP bD bM (ofDm b1 bP bD bW)))
theorem of_run1 (bP bD bW bM : Bool) : OfRun true true bP bD bW bM := by cases bP <;> cases bD <;> cases bW <;> cases bM <;> (delta OfRun SymT; show _ = _; kernel_rfl)
theorem of_run2 (bP bD bW bM : Bool) : OfRun true false bP bD bW bM := by cases bP <;> cases bD <;> cases bW <;> cases bM <;> (delta OfRun SymT; show _ = _; kernel_rfl)
theorem of_run3 (bP bD bW bM : Bool) : OfRun false true bP bD bW bM := by cases bP <;> cases bD <;> cases bW <;> cases bM <;> (delta OfRun SymT; show _ = _; kernel_rfl)
theorem of_run4 (bP bD bW bM : Bool) : OfRun false false bP bD bW bM := by cases bP <;> cases bD <;> cases bW <;> cases bM <;> (delta OfRun SymT; show _ = _; kernel_rfl)
theorem of_run (b1 b2 bP bD bW bM : Bool) : OfRun b1 b2 bP bD bW bM := by
  cases b1 <;> cases b2
  · exact of_run4 bP bD bW bM
  · exact of_run3 bP bD bW bM
  · exact of_run2 bP bD bW bM
  · exact of_run1 bP bD bW bM
end Go.Proofs.YtnggajehngemmaaGreatDoor
/-
  What a call leaves: lists of its own, whatever the letters; tidy lists.
-/
namespace Go.Proofs.YtnggajehngemmaaGreatDoor
open Go Go.RowKit
/-- a list of the call's own: N elements of z cells, vs in all -/
def NewL (B : Nat) (w' : World) (t z N : Nat) (vs : List Value) (u : Value) (bs : List Nat) : Prop :=
  (u = .slice none 0 0 ∧ N = 0 ∧ bs = []) ∨ ∃ b k y, u = .slice (some ⟨b, 0, none⟩) N k ∧ bs = [b] ∧ B ≤ b ∧ N ≤ k ∧ w'.heap[b]? = some y ∧ RowL vs t z k y
/-- list letter m: N elements of z cells, vs in all -/
structure IsL [Ltr] (m : Nat) (t z N : Nat) (vs : List Value) : Prop where
  o : ∀ k y, Ltr.o m k y ↔ RowL vs t z k y
  s : ∀ k n c, Ltr.s m k n c ↔ n = N ∧ c = k ∧ N ≤ k
  len : vs.length = N * z
  z : 0 < z
theorem RNew.iff [Ltr] {m t z N : Nat} {vs : List Value} (h : IsL m t z N vs) {B i : Nat} {w' : World} {u : Value} {bs : List Nat} : RNew B w' (TOK i m) u bs ↔ NewL B w' t z N vs u bs := by
  unfold RNew NewL
  constructor
  · rintro (⟨rfl, hs, rfl⟩ | ⟨b, k, n, c, y, rfl, rfl, hB, hs, hy, ho⟩)
    · exact .inl ⟨rfl, ((h.s _ _ _).1 hs).1.symm, rfl⟩
    · obtain ⟨rfl, rfl, hle⟩ := (h.s _ _ _).1 hs
      exact .inr ⟨b, c, y, rfl, rfl, hB, hle, hy, (h.o _ _).1 ho⟩
  · rintro (⟨rfl, rfl, rfl⟩ | ⟨b, k, y, rfl, rfl, hB, hle, hy, ho⟩)
    · exact .inl ⟨rfl, (h.s _ _ _).2 ⟨rfl, rfl, Nat.le_refl _⟩, rfl⟩
    · exact .inr ⟨b, k, _, _, y, rfl, rfl, hB, (h.s _ _ _).2 ⟨rfl, rfl, hle⟩, hy, (h.o _ _).2 ho⟩
theorem TokAt.own' [Ltr] {w : World} {m t z N : Nat} {vs : List Value} {v : Value} (h : TokAt w m v) (hL : IsL m t z N vs) : w.ownsRow 0 t z v N vs := by
  rcases h with ⟨rfl, hs⟩ | ⟨b, k, n, c, y, rfl, hs, hy, ho⟩
  · obtain ⟨rfl, -⟩ := (hL.s _ _ _).1 hs
    exact ⟨hL.len, .inl ⟨rfl, rfl⟩⟩
  · obtain ⟨rfl, rfl, -⟩ := (hL.s _ _ _).1 hs
    obtain ⟨cur, rfl, h1, h2, h3, h4⟩ := ((hL.o _ _).1 ho).row hL.len hL.z
    exact ⟨hL.len, .inr ⟨b, c, cur, rfl, Nat.zero_le _, hy, h1, h2, h3, h4⟩⟩
theorem NewL.own {B t z N : Nat} {w' : World} {vs : List Value} {u : Value} {bs : List Nat} (h : NewL B w' t z N vs u bs) (hl : vs.length = N * z) (hz : 0 < z) : w'.ownsRow B t z u N vs := by
  rcases h with ⟨rfl, rfl, rfl⟩ | ⟨b, k, y, rfl, rfl, hB, hle, hy, ho⟩
  · exact ⟨hl, .inl ⟨rfl, rfl⟩⟩
  · obtain ⟨cur, rfl, h1, h2, h3, h4⟩ := ho.row hl hz
    exact ⟨hl, .inr ⟨b, k, cur, rfl, hB, hy, h1, h2, h3, h4⟩⟩
theorem NewL.of {B B' t z N : Nat} {w' : World} {vs : List Value} {u : Value} (h : w'.ownsRow B t z u N vs) (hB : B' ≤ B) : ∃ bs, NewL B' w' t z N vs u bs ∧ bs.Nodup ∧ ∀ b ∈ bs, u.ownBlock = some b := by
  rcases h.2 with ⟨rfl, hn⟩ | ⟨g, cap, cur, rfl, hb, hg, h1, h2, h3, h4⟩
  · exact ⟨[], .inl ⟨rfl, hn, rfl⟩, List.nodup_nil, fun b hb => by cases hb⟩
  · exact ⟨[g], .inr ⟨g, cap, _, rfl, rfl, by omega, h1, hg, RowL.of h3 h4 h1 h2⟩, by simp, fun b hb => by simp at hb; rw [hb]; rfl⟩
theorem NewL.below {B t z N : Nat} {w w' : World} {vs : List Value} {u : Value} {bs : List Nat} (h : NewL B w t z N vs u bs) (hb : Below w.heap.size w w') : NewL B w' t z N vs u bs := by
  rcases h with h | ⟨b, k, y, rfl, rfl, hB, hle, hy, ho⟩
  · exact .inl h
  · exact .inr ⟨b, k, y, rfl, rfl, hB, hle, (hb.block b (Array.getElem?_eq_some_iff.1 hy).1).trans hy, ho⟩
/-- numbers as cells -/
abbrev cellI (L : List Int) : List Value := L.map (Value.int .i64)
abbrev tI : TypeId := 3
theorem cellI_len (L : List Int) : (cellI L).length = L.length * 1 := by simp
/-- each once, rising -/
def tidI (L : List Int) : List Int := Lib.compact (L.mergeSort fun x y => decide (x ≤ y))
def tidN (W : List (Int × Int)) : List (Int × Int) := cptF (W.mergeSort fun x y => !decide (Rul.cmpN y x < 0))
theorem tidI_len (L : List Int) : (tidI L).length ≤ L.length := by
  have := Lib.compact_length_le (L.mergeSort fun x y => decide (x ≤ y))
  rw [List.length_mergeSort] at this
  exact this
theorem tidN_len (W : List (Int × Int)) : (tidN W).length ≤ W.length := by
  unfold tidN cptF
  exact Nat.le_trans (cpt_le _ _) (by rw [List.length_mergeSort]; exact Nat.le_refl _)
end Go.Proofs.YtnggajehngemmaaGreatDoor
/-
  normal.Of: what its calls leave.
-/
namespace Go.Proofs.YtnggajehngemmaaGreatDoor
open Go Go.RowKit
section
variable {X : Kep} {base : Nat} {E : Ren} {H : RW} {w w' : World}
/-- list m has become list m' -/
theorem Rep.retok [Ltr] (R : Rep X base E H w) {i m m' : Nat} (hi : base ≤ i) (hl : look i H.h = some (.tok m)) (hos : w'.os = w.os) (htp : w'.tape = w.tape) (hot : w'.output = w.output) (hsz : w.heap.size ≤ w'.heap.size)
    (hother : ∀ b < w.heap.size, (∀ k, E i ≠ some (b, k)) → w'.heap[b]? = w.heap[b]?) (hnew : ∀ b k, E i = some (b, k) → ∃ y, w'.heap[b]? = some y ∧ Ltr.o m' k y) :
    Rep X base E { H with h := upd i (.tok m') H.h } w' ∧ Kp X w w' := by
  have hX : ∀ b, X b → ∀ k, E i ≠ some (b, k) := fun b hx k e => R.new i b k hi e hx
  refine ⟨⟨R.dom, ?_, ?_, R.new, fun b hx => Nat.lt_of_lt_of_le (R.lt b hx) hsz, R.bn, fun b hx => (hother b (R.lt b hx) (hX b hx)).trans (R.fx b hx)⟩, ⟨hos, htp, hot, hsz, fun b hx => hother b (R.lt b hx) (hX b hx)⟩⟩
  · intro j oj hj
    by_cases hji : j = i
    · subst hji
      rw [look_upd hl] at hj
      obtain rfl := Option.some.inj hj
      cases he : E j with
      | none => exact .inl ⟨rfl, rfl, R.lo hl⟩
      | some q =>
        obtain ⟨b, k⟩ := q
        exact .inr ⟨b, k, rfl, hnew b k he⟩
    · rw [look_upd_ne hji] at hj
      rcases R.ok' j oj hj with hn | ⟨b, k, e, h⟩
      · exact .inl hn
      · refine .inr ⟨b, k, e, h.at fun lv => ?_⟩
        refine hother b (h.lt lv) fun k' e' => hji ?_
        exact R.inj j i oj _ b k k' hj lv hl rfl e e'
  · intro j j' oj oj' b k k' hj lj hj' lj' e e'
    have hh : ∀ {x : Nat} {ox : Ob}, look x (upd i (.tok m') H.h) = some ox → ox.live = true → ∃ ox', look x H.h = some ox' ∧ ox'.live = true := by
      intro x ox hx' lx
      by_cases hxi : x = i
      · subst hxi; exact ⟨_, hl, rfl⟩
      · rw [look_upd_ne hxi] at hx'; exact ⟨ox, hx', lx⟩
    obtain ⟨p, hp, lp⟩ := hh hj lj
    obtain ⟨q, hq, lq⟩ := hh hj' lj'
    exact R.inj j j' p q b k k' hp lp hq lq e e'
end
theorem delP_ok [Ltr] {G : Nat} {X : Kep} {m q m' : Nat} {V : List (Int × Int)} (hV : IsL m tN 2 V.length (flatN V)) (hV' : IsL m' tN 2 (V.filter fun x => !goes V x).length (flatN (V.filter fun x => !goes V x))) (hq : ∀ k y, Ltr.o q k y → y = .map ⟨(cntM V).1.map imE⟩ (cntM V).2) (hl : V.length ≤ 1000000) : PrimOk Tryz.prog (delP dlF m q m') G X 64 := by
  intro f args H u H1 E w args' hR hG hr e
  unfold delP at e
  split at e
  · rename_i v cl
    obtain ⟨hc, e⟩ := cond_some e
    simp only [Bool.and_eq_true] at hc
    obtain ⟨⟨c1, c2⟩, c3⟩ := hc
    split at e
    · rename_i i j
      obtain ⟨c4, e⟩ := cond_some e
      obtain ⟨rfl, rfl⟩ := Prod.mk.inj (Option.some.inj e)
      rw [Nat.eq_of_beq_eq_true c1]
      have hi64 := Nat.le_of_ble_eq_true c4
      cases hr with
      | @cons _ v' _ _ r1 t1 =>
      cases t1 with
      | cons r2 t2 =>
      cases t2
      obtain ⟨x', y', rfl, hx', hy'⟩ := tq_rel hR 4 _ _ _ c3 r2
      obtain rfl : x' = [] := hx'
      obtain ⟨_, _, rfl, ⟨b3, cs, t3, rfl, hb3, hcs⟩, rfl⟩ := hy'
      obtain ⟨_, _, rfl, ⟨mb, km, ym, rfl, hmb, hom⟩, rfl⟩ := hcs
      have hmb2 := hq _ _ hom
      subst hmb2
      have hown := (isTok_at hR c2 r1).own' hV
      have c2' := c2
      unfold isTok at c2'
      simp only [Bool.and_eq_true] at c2'
      obtain ⟨d1, d2⟩ := c2'
      obtain rfl := Nat.eq_of_beq_eq_true d1
      split at d2
      · rename_i a hlk
        obtain rfl := Nat.eq_of_beq_eq_true d2
        have hT : Tells (kepV w v') (goes V) V ⟨b3, 0, none⟩ := by
          intro x hx w1 k1
          have keep : ∀ b, b < w.heap.size → (∀ A n c, v' = .slice (some A) n c → b ≠ A.block) → w1.heap[b]? = w.heap[b]? := by
            intro b hb hne
            have h1 := k1 b
            unfold kepV at h1
            split at h1
            · rename_i A n c
              exact h1 ⟨hb, hne _ _ _ rfl⟩
            · exact h1 hb
          have hcell : w1.cell? ⟨b3, 0, none⟩ = some (.map (some mb)) := by
            rw [heap_get_of ((keep b3 (Array.getElem?_eq_some_iff.1 hb3).1 ?_).trans hb3)]
            · rfl
            · rintro A n c rfl hbb
              rcases hown.2 with ⟨e, -⟩ | ⟨g, cap, cur, e, -, hg, -, -, hsz, -⟩
              · cases e
              · cases e
                rw [hbb] at hb3
                rw [hg] at hb3
                cases hb3
                simp at hsz
                omega
          have hmap : w1.heap[mb]? = some (.map ⟨(cntM V).1.map imE⟩ (cntM V).2) := by
            rw [keep mb (Array.getElem?_eq_some_iff.1 hmb).1 ?_]
            · exact hmb
            · rintro A n c rfl hbb
              rcases hown.2 with ⟨e, -⟩ | ⟨g, cap, cur, e, -, hg, -, -, hsz, -⟩
              · cases e
              · cases e
                rw [hbb] at hmb
                rw [hg] at hmb
                cases hmb
          exact of1_any x hl hcell hmap
        refine (delN_any (base := 0) hown hl hT).mono ?_
        rintro e w' ⟨A, c, hve, rfl, hown', hk⟩
        have hfl : (V.filter fun x => !goes V x).length ≤ V.length := List.length_filter_le _ _
        cases r1 with
        | same hf => cases hf
        | @tk _ _ b k _ _ f hE hq' hs =>
          obtain ⟨h1, h2, hle⟩ := (hV.s _ _ _).1 hs
          obtain ⟨rfl, -, rfl⟩ := Value.slice.inj hve
          subst h2
          obtain ⟨R1, K1⟩ := hR.retok (m' := m') hi64 hlk hk.os hk.tape hk.output hk.size (fun b2 hb2 hne => hk.block b2 ⟨hb2, fun (hbb : b2 = b) => by subst hbb; exact hne _ hE⟩) (fun b2 k2 he => by
            rw [hE] at he
            obtain ⟨rfl, rfl⟩ := Prod.mk.inj (Option.some.inj he)
            rcases hown'.2 with ⟨e2, -⟩ | ⟨g, cap, cur, e2, -, hg, g1, g2, g3, g4⟩
            · cases e2
            · cases e2
              exact ⟨_, hg, (hV'.o _ _).2 (RowL.of g3 g4 g1 g2)⟩)
          exact ⟨_, E, rfl, Ext.refl E, R1, K1, .tk hE hq' ((hV'.s _ _ _).2 ⟨rfl, rfl, by omega⟩)⟩
        | tkn hq' hs =>
          have h0 := ((hV.s _ _ _).1 hs).1.symm
          obtain ⟨rfl, -, rfl⟩ := Value.slice.inj hve
          obtain rfl : V = [] := List.eq_nil_of_length_eq_zero h0
          obtain ⟨R1, K1⟩ := hR.retok (m' := m') hi64 hlk hk.os hk.tape hk.output hk.size (fun b2 hb2 hne => hk.block b2 hb2) (fun b2 k2 he => by
            obtain ⟨y, hy, ho⟩ := hR.oke hlk he
            exact ⟨y, (hk.block b2 (Array.getElem?_eq_some_iff.1 hy).1).trans hy, (hV'.o _ _).2 ((hV.o _ _).1 ho)⟩)
          exact ⟨_, E, rfl, Ext.refl E, R1, K1, .tkn hq' ((hV'.s _ _ _).2 ⟨rfl, rfl, Nat.le_refl _⟩)⟩
      · cases d2
    · cases e
  · cases e
end Go.Proofs.YtnggajehngemmaaGreatDoor
/-
  normal.Of, normal.Tidy: their contracts.
-/
namespace Go.Proofs.YtnggajehngemmaaGreatDoor
open Go Go.RowKit
theorem own_keep {w w' : World} {B t z N : Nat} {v : Value} {vs : List Value} (h : w.ownsRow B t z v N vs) (k : ∀ b, (kep w) b → w'.heap[b]? = (kep w).ob b) : w'.ownsRow B t z v N vs := by
  refine ⟨h.1, ?_⟩
  rcases h.2 with hn | ⟨g, cap, cur, hv, hb, hg, rest⟩
  · exact .inl hn
  · exact .inr ⟨g, cap, cur, hv, hb, (k g (Array.getElem?_eq_some_iff.1 hg).1).trans hg, rest⟩
theorem own_slice {w : World} {B t z N : Nat} {v : Value} {vs : List Value} (h : w.ownsRow B t z v N vs) : ∃ A c, v = .slice A N c := by
  rcases h.2 with ⟨rfl, rfl⟩ | ⟨g, cap, cur, rfl, -⟩
  · exact ⟨none, 0, rfl⟩
  · exact ⟨_, cap, rfl⟩
/-- tidyList at numbers: a list of its own, each once, rising -/
def TidyI : Prop := ∀ (w : World) (v : Value) (L : List Int), OwnI w 0 v L → L.length ≤ 1000000 → Calls Tryz.prog tiF #[v, kCmp] w fun e w' => ∃ u bs, e = .returned u ∧ Below w.heap.size w w' ∧ NewL w.heap.size w' tI 1 (tidI L).length (cellI (tidI L)) u bs ∧ bs.Nodup ∧ ∀ b ∈ bs, w.heap.size ≤ b
def TidyN : Prop := ∀ (w : World) (v : Value) (W : List (Int × Int)), OwnN w 0 v W → W.length ≤ 1000000 → Calls Tryz.prog tnF #[v, kOrd] w fun e w' => ∃ u bs, e = .returned u ∧ Below w.heap.size w w' ∧ NewL w.heap.size w' tN 2 (tidN W).length (flatN (tidN W)) u bs ∧ bs.Nodup ∧ ∀ b ∈ bs, w.heap.size ≤ b
abbrev ofL (fv : List Value) (M D : List Int) (W : List (Int × Int)) (P : List Int) (W2 : List (Int × Int)) (mp : IM × Nat) : Ltr := ⟨fun i => fv[i]?, fun _ _ => False,
  fun a kk y => (a = 1 ∧ RowL (cellI M) tI 1 kk y) ∨ (a = 2 ∧ RowL (cellI D) tI 1 kk y) ∨ (a = 3 ∧ RowL (flatN W) tN 2 kk y) ∨ (a = 4 ∧ RowL (cellI P) tI 1 kk y) ∨ (a = 5 ∧ RowL (flatN W2) tN 2 kk y) ∨ (a = 9 ∧ y = .map ⟨mp.1.map imE⟩ mp.2),
  fun j kk n c => c = kk ∧ n ≤ kk ∧ ((j = 1 ∧ n = M.length) ∨ (j = 2 ∧ n = D.length) ∨ (j = 3 ∧ n = W.length) ∨ (j = 4 ∧ n = P.length) ∨ (j = 5 ∧ n = W2.length)), fun _ _ => False, fun _ => 0⟩
section
variable {fv : List Value} {M D : List Int} {W : List (Int × Int)} {P : List Int} {W2 : List (Int × Int)} {mp : IM × Nat}
theorem of_is1 : @IsL (ofL fv M D W P W2 mp) 1 tI 1 M.length (cellI M) :=
  @IsL.mk (ofL fv M D W P W2 mp) _ _ _ _ _ (fun k y => ⟨fun h => by rcases h with h | h | h | h | h | h <;> first | exact h.2 | exact absurd h.1 (by omega), fun h => .inl ⟨rfl, h⟩⟩) (fun k n c => ⟨fun h => by rcases h with ⟨h1, h2, h | h | h | h | h⟩ <;> first | exact ⟨h.2, h1, h.2 ▸ h2⟩ | exact absurd h.1 (by omega), fun ⟨h1, h2, h3⟩ => ⟨h2, h1 ▸ h3, .inl ⟨rfl, h1⟩⟩⟩) (cellI_len M) (by omega)
theorem of_is2 : @IsL (ofL fv M D W P W2 mp) 2 tI 1 D.length (cellI D) :=
  @IsL.mk (ofL fv M D W P W2 mp) _ _ _ _ _ (fun k y => ⟨fun h => by rcases h with h | h | h | h | h | h <;> first | exact h.2 | exact absurd h.1 (by omega), fun h => .inr (.inl ⟨rfl, h⟩)⟩) (fun k n c => ⟨fun h => by rcases h with ⟨h1, h2, h | h | h | h | h⟩ <;> first | exact ⟨h.2, h1, h.2 ▸ h2⟩ | exact absurd h.1 (by omega), fun ⟨h1, h2, h3⟩ => ⟨h2, h1 ▸ h3, .inr (.inl ⟨rfl, h1⟩)⟩⟩) (cellI_len D) (by omega)
theorem of_is3 : @IsL (ofL fv M D W P W2 mp) 3 tN 2 W.length (flatN W) :=
  @IsL.mk (ofL fv M D W P W2 mp) _ _ _ _ _ (fun k y => ⟨fun h => by rcases h with h | h | h | h | h | h <;> first | exact h.2 | exact absurd h.1 (by omega), fun h => .inr (.inr (.inl ⟨rfl, h⟩))⟩) (fun k n c => ⟨fun h => by rcases h with ⟨h1, h2, h | h | h | h | h⟩ <;> first | exact ⟨h.2, h1, h.2 ▸ h2⟩ | exact absurd h.1 (by omega), fun ⟨h1, h2, h3⟩ => ⟨h2, h1 ▸ h3, .inr (.inr (.inl ⟨rfl, h1⟩))⟩⟩) (flatN_len W) (by omega)
theorem of_is4 : @IsL (ofL fv M D W P W2 mp) 4 tI 1 P.length (cellI P) :=
  @IsL.mk (ofL fv M D W P W2 mp) _ _ _ _ _ (fun k y => ⟨fun h => by rcases h with h | h | h | h | h | h <;> first | exact h.2 | exact absurd h.1 (by omega), fun h => .inr (.inr (.inr (.inl ⟨rfl, h⟩)))⟩) (fun k n c => ⟨fun h => by rcases h with ⟨h1, h2, h | h | h | h | h⟩ <;> first | exact ⟨h.2, h1, h.2 ▸ h2⟩ | exact absurd h.1 (by omega), fun ⟨h1, h2, h3⟩ => ⟨h2, h1 ▸ h3, .inr (.inr (.inr (.inl ⟨rfl, h1⟩)))⟩⟩) (cellI_len P) (by omega)
theorem of_is5 : @IsL (ofL fv M D W P W2 mp) 5 tN 2 W2.length (flatN W2) :=
  @IsL.mk (ofL fv M D W P W2 mp) _ _ _ _ _ (fun k y => ⟨fun h => by rcases h with h | h | h | h | h | h <;> first | exact h.2 | exact absurd h.1 (by omega), fun h => .inr (.inr (.inr (.inr (.inl ⟨rfl, h⟩))))⟩) (fun k n c => ⟨fun h => by rcases h with ⟨h1, h2, h | h | h | h | h⟩ <;> first | exact ⟨h.2, h1, h.2 ▸ h2⟩ | exact absurd h.1 (by omega), fun ⟨h1, h2, h3⟩ => ⟨h2, h1 ▸ h3, .inr (.inr (.inr (.inr ⟨rfl, h1⟩)))⟩⟩) (flatN_len W2) (by omega)
theorem of_is9 {kk : Nat} {y : Obj} : (ofL fv M D W P W2 mp).o 9 kk y ↔ y = .map ⟨mp.1.map imE⟩ mp.2 := by
  constructor
  · intro h
    rcases h with h | h | h | h | h | h <;> first | exact h.2 | exact absurd h.1 (by omega)
  · exact fun h => .inr (.inr (.inr (.inr (.inr ⟨rfl, h⟩))))
end
/-- a rule whose lists are the call's own -/
def RuleN (B : Nat) (w' : World) (f iv cn u : Int) (M D : List Int) (W : List (Int × Int)) (P : List Int) (r : Value) : Prop :=
  ∃ sM sD sW sP b1 b2 b3 b4, r = .agg ⟨[.int .i64 f, .int .i64 iv, .int .i64 cn, .int .i64 u, sM, sD, sW, sP]⟩ ∧ NewL B w' tI 1 M.length (cellI M) sM b1 ∧ NewL B w' tI 1 D.length (cellI D) sD b2 ∧ NewL B w' tN 2 W.length (flatN W) sW b3 ∧ NewL B w' tI 1 P.length (cellI P) sP b4 ∧ (b1 ++ (b2 ++ (b3 ++ b4))).Nodup ∧ ∀ b ∈ b1 ++ (b2 ++ (b3 ++ b4)), B ≤ b
/-- what Of makes of tidy lists -/
def ofDrop (f : Int) (M D : List Int) (W : List (Int × Int)) (P : List Int) : Bool := mla f M && (decide (P.length = 0) || decide (0 < D.length) || decide (0 < (W.filter fun x => !goes W x).length))
def ofM (f : Int) (M D : List Int) (W : List (Int × Int)) (P : List Int) : List Int := bif ofDrop f M D W P then [] else M
def ofDropW (f : Int) (M D : List Int) (W : List (Int × Int)) (P : List Int) : Bool := wla f (W.filter fun x => !goes W x).length W && (decide (P.length = 0) || (!ofDrop f M D W P && decide (0 < M.length)) || decide (0 < D.length))
def ofW (f : Int) (M D : List Int) (W : List (Int × Int)) (P : List Int) : List (Int × Int) := bif ofDropW f M D W P then [] else W.filter fun x => !goes W x
theorem ti_ok (L : Ltr) (hI : TidyI) {w : World} {i m : Nat} {v : Value} {l : List Int} (hi : L.v i = some v) (h : OwnI w 0 v l) (hl : l.length ≤ 1000000) (hm : @IsL L m tI 1 (tidI l).length (cellI (tidI l))) : @PrimOk L Tryz.prog (tokP tiF [Lt i, kCmp] (TOK 0 m)) 64 (kep w) 64 := by
  refine @tokP_ok L _ _ _ _ _ _ _ fun w1 args' k ha => ?_
  obtain ⟨_, _, rfl, ⟨E1, r1⟩, _, _, rfl, ⟨x', y', rfl, hx, hy⟩, rfl⟩ := ha
  obtain rfl : x' = [] := hx
  obtain rfl : y' = [] := hy
  rw [@is_ltr L i _ hi _ _ r1]
  refine (hI w1 v l (own_keep h k) hl).mono ?_
  rintro e w2 ⟨u, bs, rfl, hb, hN, hd, hge⟩
  exact ⟨u, bs, rfl, hb, (@RNew.iff L _ _ _ _ _ hm _ 0 _ _ _).2 hN, hd, hge⟩
theorem tn_ok (L : Ltr) (hN : TidyN) {w : World} {i m : Nat} {v : Value} {l : List (Int × Int)} (hi : L.v i = some v) (h : OwnN w 0 v l) (hl : l.length ≤ 1000000) (hm : @IsL L m tN 2 (tidN l).length (flatN (tidN l))) : @PrimOk L Tryz.prog (tokP tnF [Lt i, kOrd] (TOK 0 m)) 64 (kep w) 64 := by
  refine @tokP_ok L _ _ _ _ _ _ _ fun w1 args' k ha => ?_
  obtain ⟨_, _, rfl, ⟨E1, r1⟩, _, _, rfl, ⟨x', y', rfl, hx, hy⟩, rfl⟩ := ha
  obtain rfl : x' = [] := hx
  obtain rfl : y' = [] := hy
  rw [@is_ltr L i _ hi _ _ r1]
  refine (hN w1 v l (own_keep h k) hl).mono ?_
  rintro e w2 ⟨u, bs, rfl, hb, hN, hd, hge⟩
  exact ⟨u, bs, rfl, hb, (@RNew.iff L _ _ _ _ _ hm _ 0 _ _ _).2 hN, hd, hge⟩
end Go.Proofs.YtnggajehngemmaaGreatDoor
/-
  normal.Of, normal.Tidy: what they answer.
-/
namespace Go.Proofs.YtnggajehngemmaaGreatDoor
open Go Go.RowKit
section
variable {L : Ltr} {B : Nat} {w' : World} {f iv cn u : Int} {us : List Value} {bs : List Nat}
theorem rel_int {i : Nat} {v : Int} {z : Value} (hi : L.v i = some (.int .i64 v)) (h : ∀ E : Ren, @Rel L E (Lt i) z) : z = .int .i64 v := @is_ltr L i _ hi (fun _ => none) z (h _)
/-- a rule that a run has left -/
theorem rule_of {pM pW : Value} {M D : List Int} {W : List (Int × Int)} {P : List Int} (h0 : L.v 0 = some (.int .i64 f)) (h1 : L.v 1 = some (.int .i64 iv)) (h2 : L.v 2 = some (.int .i64 cn)) (h3 : L.v 3 = some (.int .i64 u))
    (hM : ∀ z b, @RNew L B w' pM z b → NewL B w' tI 1 M.length (cellI M) z b) (hD : @IsL L 2 tI 1 D.length (cellI D)) (hW : ∀ z b, @RNew L B w' pW z b → NewL B w' tN 2 W.length (flatN W) z b) (hP : @IsL L 4 tI 1 P.length (cellI P))
    (h : @RNewL L B w' [Lt 0, Lt 1, Lt 2, Lt 3, pM, TOK 0 2, pW, TOK 0 4] us bs) (hd : bs.Nodup) (hg : ∀ b ∈ bs, B ≤ b) : RuleN B w' f iv cn u M D W P (.agg ⟨us⟩) := by
  obtain ⟨z0, l0, c0, d0, rfl, rfl, ⟨rfl, r0⟩, z1, l1, c1, d1, rfl, rfl, ⟨rfl, r1⟩, z2, l2, c2, d2, rfl, rfl, ⟨rfl, r2⟩, z3, l3, c3, d3, rfl, rfl, ⟨rfl, r3⟩, z4, l4, c4, d4, rfl, rfl, r4, z5, l5, c5, d5, rfl, rfl, r5, z6, l6, c6, d6, rfl, rfl, r6, z7, l7, c7, d7, rfl, rfl, r7, rfl, rfl⟩ := h
  simp only [List.nil_append, List.append_nil] at hd hg
  rw [rel_int h0 r0, rel_int h1 r1, rel_int h2 r2, rel_int h3 r3]
  exact ⟨z4, z5, z6, z7, c4, c5, c6, c7, rfl, hM _ _ r4, (@RNew.iff L _ _ _ _ _ hD _ 0 _ _ _).1 r5, hW _ _ r6, (@RNew.iff L _ _ _ _ _ hP _ 0 _ _ _).1 r7, hd, hg⟩
end
section
variable {w : World} {f iv cn u : Int} {sM sD sW sP : Value} {M D : List Int} {W : List (Int × Int)} {P : List Int}
/-- the lists of a rule, as they are -/
structure RuleI (w : World) (sM sD sW sP : Value) (M D : List Int) (W : List (Int × Int)) (P : List Int) : Prop where
  m : OwnI w 0 sM M
  d : OwnI w 0 sD D
  k : OwnN w 0 sW W
  p : OwnI w 0 sP P
  lm : M.length ≤ 1000000
  ld : D.length ≤ 1000000
  lk : W.length ≤ 1000000
  lp : P.length ≤ 1000000
abbrev fld (f iv cn u : Int) (sM sD sW sP : Value) (l : List Value) : List Value := [.int .i64 f, .int .i64 iv, .int .i64 cn, .int .i64 u, sM, sD, sW, sP] ++ l
theorem own_sgl {t z N B : Nat} {v : Value} {vs : List Value} (h : w.ownsRow B t z v N vs) : sgl v = true := by
  obtain ⟨A, c, rfl⟩ := own_slice h
  rfl
theorem rule_args (L : Ltr) (hv : ∀ i < 8, L.v i = (fld f iv cn u sM sD sW sP [])[i]?) (h : RuleI w sM sD sW sP M D W P) (E : Ren) : @RelL L E [ofA] [.agg ⟨[.int .i64 f, .int .i64 iv, .int .i64 cn, .int .i64 u, sM, sD, sW, sP]⟩] :=
  @RelL.cons L _ _ _ _ _ (@Rel.agg L _ _ _ (@RelL.cons L _ _ _ _ _ (@to_ltr L 0 _ (hv 0 (by omega)) rfl _) (@RelL.cons L _ _ _ _ _ (@to_ltr L 1 _ (hv 1 (by omega)) rfl _) (@RelL.cons L _ _ _ _ _ (@to_ltr L 2 _ (hv 2 (by omega)) rfl _) (@RelL.cons L _ _ _ _ _ (@to_ltr L 3 _ (hv 3 (by omega)) rfl _) (@RelL.cons L _ _ _ _ _ (@to_ltr L 4 _ (hv 4 (by omega)) (own_sgl h.m) _) (@RelL.cons L _ _ _ _ _ (@to_ltr L 5 _ (hv 5 (by omega)) (own_sgl h.d) _) (@RelL.cons L _ _ _ _ _ (@to_ltr L 6 _ (hv 6 (by omega)) (own_sgl h.k) _) (@RelL.cons L _ _ _ _ _ (@to_ltr L 7 _ (hv 7 (by omega)) (own_sgl h.p) _) (@RelL.nil L _)))))))))) (@RelL.nil L _)
theorem tdP_ok (hI : TidyI) (hN : TidyN) (L : Ltr) (hv : ∀ i < 8, L.v i = (fld f iv cn u sM sD sW sP [])[i]?) (h : RuleI w sM sD sW sP M D W P) (i1 : @IsL L 1 tI 1 (tidI M).length (cellI (tidI M))) (i2 : @IsL L 2 tI 1 (tidI D).length (cellI (tidI D))) (i3 : @IsL L 3 tN 2 (tidN W).length (flatN (tidN W))) (i4 : @IsL L 4 tI 1 (tidI P).length (cellI (tidI P))) : ∀ p ∈ tdP, @PrimOk L Tryz.prog p 64 (kep w) 64 :=
  ac (ti_ok L hI (hv 4 (by omega)) h.m h.lm i1) (ac (ti_ok L hI (hv 5 (by omega)) h.d h.ld i2) (ac (tn_ok L hN (hv 6 (by omega)) h.k h.lk i3) (ac (ti_ok L hI (hv 7 (by omega)) h.p h.lp i4) an)))
theorem tidy_any (hI : TidyI) (hN : TidyN) (h : RuleI w sM sD sW sP M D W P) :
    Calls Tryz.prog tdF #[.agg #[.int .i64 f, .int .i64 iv, .int .i64 cn, .int .i64 u, sM, sD, sW, sP]] w fun e w' => ∃ r, e = .returned r ∧ Below w.heap.size w w' ∧ RuleN w.heap.size w' f iv cn u (tidI M) (tidI D) (tidN W) (tidI P) r := by
  let L : Ltr := ofL (fld f iv cn u sM sD sW sP []) (tidI M) (tidI D) (tidN W) (tidI P) [] ([], 0)
  refine (symT L 60 an an an (@anyP_ok L _ _ _ _ _ (tdP_ok hI hN L (fun i _ => rfl) h of_is1 of_is2 of_is3 of_is4)) (rule_args L (fun i _ => rfl) h _) td_run).mono ?_
  rintro e w' ⟨us, bs, rfl, hb, hr, hd, hg⟩
  exact ⟨_, rfl, hb, rule_of (L := L) rfl rfl rfl rfl (fun z b => (@RNew.iff L _ _ _ _ _ of_is1 _ 0 _ _ _).1) of_is2 (fun z b => (@RNew.iff L _ _ _ _ _ of_is3 _ 0 _ _ _).1) of_is4 hr hd hg⟩
theorem tok_sgl [Ltr] {w : World} {m : Nat} {v : Value} (h : TokAt w m v) : sgl v = true := by
  rcases h with ⟨rfl, -⟩ | ⟨b, k, n, c, y, rfl, -⟩ <;> rfl
theorem of_any (hI : TidyI) (hN : TidyN) (h : RuleI w sM sD sW sP M D W P) :
    Calls Tryz.prog ofF #[.agg #[.int .i64 f, .int .i64 iv, .int .i64 cn, .int .i64 u, sM, sD, sW, sP]] w fun e w' => ∃ r, e = .returned r ∧ Below w.heap.size w w' ∧ RuleN w.heap.size w' f iv cn u (ofM f (tidI M) (tidI D) (tidN W) (tidI P)) (tidI D) (ofW f (tidI M) (tidI D) (tidN W) (tidI P)) (tidI P) r := by
  have lM := Nat.le_trans (tidI_len M) h.lm
  have lD := Nat.le_trans (tidI_len D) h.ld
  have lW := Nat.le_trans (tidN_len W) h.lk
  have lP := Nat.le_trans (tidI_len P) h.lp
  generalize hM1 : tidI M = M1 at lM ⊢
  generalize hD1 : tidI D = D1 at lD ⊢
  generalize hW1 : tidN W = W1 at lW ⊢
  generalize hP1 : tidI P = P1 at lP ⊢
  let W2 := W1.filter fun x => !goes W1 x
  have lW2 : W2.length ≤ W1.length := List.length_filter_le _ _
  let L : Ltr := ofL (fld f iv cn u sM sD sW sP [.int .i64 M1.length, .int .i64 D1.length, .int .i64 W2.length, .int .i64 P1.length]) M1 D1 W1 P1 W2 (cntM W1)
  have i1 : @IsL L 1 tI 1 M1.length (cellI M1) := of_is1
  have i2 : @IsL L 2 tI 1 D1.length (cellI D1) := of_is2
  have i3 : @IsL L 3 tN 2 W1.length (flatN W1) := of_is3
  have i4 : @IsL L 4 tI 1 P1.length (cellI P1) := of_is4
  have i5 : @IsL L 5 tN 2 W2.length (flatN W2) := of_is5
  have hv : ∀ i < 8, L.v i = (fld f iv cn u sM sD sW sP [])[i]? := fun i hi => by
    show (fld f iv cn u sM sD sW sP [.int .i64 M1.length, .int .i64 D1.length, .int .i64 W2.length, .int .i64 P1.length])[i]? = _
    rw [List.getElem?_append_left (by exact hi)]
    rfl
  have hO : ∀ e ∈ ofO (decide (P1.length = 0)) (decide (0 < D1.length)) (decide (0 < W2.length)) (decide (0 < M1.length)), @OEOkX L Tryz.prog (kep w) e :=
    ac (@lenT_ok L 33 _ 4 P1.length (Lt 11) Tryz.underlying33 (fun k n c hs => ((i4.s k n c).1 hs).1) (@to_ltr L 11 _ rfl rfl)).x (ac (@li L _ _ _ _ _ _ rfl rfl (xi_eq (by rw [Bool.eq_iff_iff]; simp)) (@to_flat L _ rfl)).x
      (ac (@lenT_ok L 33 _ 2 D1.length (Lt 9) Tryz.underlying33 (fun k n c hs => ((i2.s k n c).1 hs).1) (@to_ltr L 9 _ rfl rfl)).x (ac (@li L _ _ _ _ _ _ rfl rfl (xi_gt (by rw [Bool.eq_iff_iff]; simp)) (@to_flat L _ rfl)).x
      (ac (@lenT_ok L 34 _ 5 W2.length (Lt 10) Tryz.underlying34 (fun k n c hs => ((i5.s k n c).1 hs).1) (@to_ltr L 10 _ rfl rfl)).x (ac (@li L _ _ _ _ _ _ rfl rfl (xi_gt (by rw [Bool.eq_iff_iff]; simp)) (@to_flat L _ rfl)).x
      (ac (@lenT_ok L 33 _ 1 M1.length (Lt 8) Tryz.underlying33 (fun k n c hs => ((i1.s k n c).1 hs).1) (@to_ltr L 8 _ rfl rfl)).x (ac (@li L _ _ _ _ _ _ rfl rfl (xi_gt (by rw [Bool.eq_iff_iff]; simp)) (@to_flat L _ rfl)).x an)))))))
  have hdm : ofDm (mla f M1) (decide (P1.length = 0)) (decide (0 < D1.length)) (decide (0 < W2.length)) = ofDrop f M1 D1 W1 P1 := rfl
  have hdw : ofDw (wla f W2.length W1) (decide (P1.length = 0)) (decide (0 < D1.length)) (decide (0 < M1.length)) (ofDrop f M1 D1 W1 P1) = ofDropW f M1 D1 W1 P1 := rfl
  have hP : ∀ p ∈ ofPm (mla f M1) (wla f W2.length W1) (ofDrop f M1 D1 W1 P1), @PrimOk L Tryz.prog p 64 (kep w) 64 := by
    intro p hp0
    rcases List.mem_append.1 hp0 with hq | hq
    · subst hM1 hD1 hW1 hP1
      exact tdP_ok hI hN L hv h i1 i2 i3 i4 p hq
    · clear hp0
      revert p
      refine ac ?_ (ac ?_ (ac ?_ (ac ?_ an)))
      · refine @newT_ok L _ _ _ _ _ _ _ _ fun w1 args' k ha => ?_
        obtain ⟨v, _, rfl, hv, rfl⟩ := ha
        have hv : @TokAt L w1 3 v := hv
        refine (count_any (@TokAt.own' L _ _ _ _ _ _ _ hv i3) lW).mono ?_
        rintro e w2 ⟨b, rfl, hge, hy, hb⟩
        exact ⟨b, 0, _, _, rfl, hb, hge, hy, of_is9.2 rfl, fun F n hF => @Rel.map L _ _ _ _ hF⟩
      · exact @delP_ok L _ _ _ _ _ W1 i3 i5 (fun k y hy => of_is9.1 hy) lW
      · refine @flT_ok L _ _ _ _ _ _ _ rfl fun w1 args' k ha => ?_
        obtain ⟨_, _, rfl, ⟨y, rfl, z0, _, rfl, ⟨E0, r0⟩, z1, _, rfl, ⟨E1, r1⟩, z2, _, rfl, ⟨E2, r2⟩, z3, _, rfl, ⟨E3, r3⟩, z4, _, rfl, h4, z5, _, rfl, h5, z6, _, rfl, h6, z7, _, rfl, h7, rfl⟩, rfl⟩ := ha
        rw [@is_ltr L 0 _ rfl _ _ r0, @is_ltr L 1 _ rfl _ _ r1, @is_ltr L 2 _ rfl _ _ r2, @is_ltr L 3 _ rfl _ _ r3]
        have o4 : OwnI w1 0 z4 M1 := @TokAt.own' L _ _ _ _ _ _ _ h4 i1
        obtain ⟨A, c, rfl⟩ := own_slice o4
        exact ml_any o4 (@tok_sgl L _ _ _ h5) (@tok_sgl L _ _ _ h6) (@tok_sgl L _ _ _ h7)
      · refine @flT_ok L _ _ _ _ _ _ _ rfl fun w1 args' k ha => ?_
        obtain ⟨_, _, rfl, ⟨y, rfl, z0, _, rfl, ⟨E0, r0⟩, z1, _, rfl, ⟨E1, r1⟩, z2, _, rfl, ⟨E2, r2⟩, z3, _, rfl, ⟨E3, r3⟩, z4, _, rfl, h4, z5, _, rfl, h5, z6, _, rfl, h6, z7, _, rfl, h7, rfl⟩, _, _, rfl, ⟨mb, km, ym, rfl, hmb, hom⟩, rfl⟩ := ha
        rw [@is_ltr L 0 _ rfl _ _ r0, @is_ltr L 1 _ rfl _ _ r1, @is_ltr L 2 _ rfl _ _ r2, @is_ltr L 3 _ rfl _ _ r3]
        have hom := of_is9.1 hom
        subst hom
        have o6 : OwnN w1 0 z6 W2 := @TokAt.own' L _ _ _ _ _ _ _ h6 i5
        obtain ⟨A, c, rfl⟩ := own_slice o6
        have s4 : sgl z4 = true := by
          cases hb : ofDrop f M1 D1 W1 P1 with
          | true => rw [hb] at h4; obtain ⟨E4, r4⟩ := h4; rw [@Rel.flat_eq E4 L _ _ rfl r4]; rfl
          | false => rw [hb] at h4; exact @tok_sgl L _ _ _ h4
        exact wl_any s4 (@tok_sgl L _ _ _ h5) (@tok_sgl L _ _ _ h7) hmb
  have run := of_run (mla f M1) (wla f W2.length W1) (decide (P1.length = 0)) (decide (0 < D1.length)) (decide (0 < W2.length)) (decide (0 < M1.length))
  unfold OfRun at run
  rw [hdm, hdw] at run
  refine (symT L 60 hO an an (@anyP_ok L _ _ _ _ _ hP) (rule_args L hv h _) run).mono ?_
  rintro e w' ⟨us, bs, rfl, hb, hr, hd, hg⟩
  refine ⟨_, rfl, hb, rule_of (L := L) rfl rfl rfl rfl ?_ i2 ?_ i4 hr hd hg⟩
  · intro z b hz
    unfold ofM
    cases hb : ofDrop f M1 D1 W1 P1 with
    | true =>
      rw [hb] at hz
      obtain ⟨rfl, r⟩ := hz
      exact .inl ⟨@Rel.flat_eq (fun _ => none) L _ _ rfl (r _), rfl, rfl⟩
    | false =>
      rw [hb] at hz
      exact (@RNew.iff L _ _ _ _ _ i1 _ 0 _ _ _).1 hz
  · intro z b hz
    unfold ofW
    cases hb : ofDropW f M1 D1 W1 P1 with
    | true =>
      rw [hb] at hz
      obtain ⟨rfl, r⟩ := hz
      exact .inl ⟨@Rel.flat_eq (fun _ => none) L _ _ rfl (r _), rfl, rfl⟩
    | false =>
      rw [hb] at hz
      exact (@RNew.iff L _ _ _ _ _ i5 _ 0 _ _ _).1 hz
end
end Go.Proofs.YtnggajehngemmaaGreatDoor
