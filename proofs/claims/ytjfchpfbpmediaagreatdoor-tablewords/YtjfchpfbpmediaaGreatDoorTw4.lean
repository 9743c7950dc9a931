/-
  table: numbers by other kinds, how many values a category has, a key that is not there.
-/
import Derived.Test.YtjfchpfbpmediaaGreatDoorTw3
import Derived.Test.YtjfchpfbpmediaaGreatDoorCv
namespace Go.Proofs.YtjfchpfbpmediaaGreatDoor
open Go Go.RowKit
theorem cv_kind [Ltr] {i j n : Nat} (hn : n ≤ 255) (hi : Ltr.v i = some (.int .u8 n)) (hj : Ltr.v j = some (.int .i64 n)) : OEOk Tryz.prog (cvE 5 38 (Lt i) (Lt j)) :=
  cvE_ok fun o ρ x E w ho hx => by
    have e1 := is_ltr hi E _ hx
    refine ⟨.int .i64 n, ?_, .ltr hj rfl⟩
    have h : IntKind.i64.wrap (n : Int) = n := IntWalk.i64_in _ (by omega)
    simp only [execOp, ho, e1]
    go_simp
theorem cv_style [Ltr] {i j n : Nat} (hn : n ≤ 255) (hi : Ltr.v i = some (.int .u8 n)) (hj : Ltr.v j = some (.int .i64 n)) : OEOk Tryz.prog (cvE 5 39 (Lt i) (Lt j)) :=
  cvE_ok fun o ρ x E w ho hx => by
    have e1 := is_ltr hi E _ hx
    refine ⟨.int .i64 n, ?_, .ltr hj rfl⟩
    have h : IntKind.i64.wrap (n : Int) = n := IntWalk.i64_in _ (by omega)
    simp only [execOp, ho, e1]
    go_simp
theorem cv_cat [Ltr] {i j : Nat} {n : Int} (hn : -128 ≤ n ∧ n ≤ 127) (hi : Ltr.v i = some (.int .i8 n)) (hj : Ltr.v j = some (.int .i64 n)) : OEOk Tryz.prog (cvE 22 34 (Lt i) (Lt j)) :=
  cvE_ok fun o ρ x E w ho hx => by
    have e1 := is_ltr hi E _ hx
    refine ⟨.int .i64 n, ?_, .ltr hj rfl⟩
    have h : IntKind.i64.wrap n = n := IntWalk.i64_in _ (by omega)
    simp only [execOp, ho, e1]
    go_simp
theorem cv_i8 [Ltr] {i j : Nat} {n : Int} (hn : -128 ≤ n ∧ n ≤ 127) (hi : Ltr.v i = some (.int .i8 n)) (hj : Ltr.v j = some (.int .i64 n)) : OEOk Tryz.prog (cvE 22 3 (Lt i) (Lt j)) :=
  cvE_ok fun o ρ x E w ho hx => by
    have e1 := is_ltr hi E _ hx
    refine ⟨.int .i64 n, ?_, .ltr hj rfl⟩
    have h : IntKind.i64.wrap n = n := IntWalk.i64_in _ (by omega)
    simp only [execOp, ho, e1]
    go_simp
theorem xi_eq {k : IntKind} {a b : Int} {r : Bool} (h : (a == b) = r) : binX .eql (.int k a) (.int k b) = some (.bool r) := by
  subst h
  show (bif decide (k = k) then some (Value.bool (a == b)) else none) = _
  rw [decide_eq_true rfl]
  rfl
def manyI (c : Int) : Nat := if 0 ≤ c ∧ c < 15 then Tbl.many c.toNat else 0
theorem is15 {c : Int} (h : 0 ≤ c ∧ c < 15) : c ∈ ([0, 1, 2, 3, 4, 5, 6, 7, 8, 9, 10, 11, 12, 13, 14] : List Int) := by
  have : c = 0 ∨ c = 1 ∨ c = 2 ∨ c = 3 ∨ c = 4 ∨ c = 5 ∨ c = 6 ∨ c = 7 ∨ c = 8 ∨ c = 9 ∨ c = 10 ∨ c = 11 ∨ c = 12 ∨ c = 13 ∨ c = 14 := by omega
  simpa using this
noncomputable def manyR (f : FuncId) (c : Int) : Bool :=
  match (callEv Tryz.prog (prL []) 64 (@codeQ (orcL []) Tryz.prog (prL []) 64 64 40 false) f [.int .i64 c] ⟨64, []⟩) with
  | some (.int .i64 n, _) => ibeq n (manyI c)
  | _ => false
theorem manyR_sym {f : FuncId} {c : Int} (h : manyR f c = true) : Sym [] [] 40 f [.int .i64 c] (.int .i64 (manyI c)) := by
  unfold manyR at h
  delta Sym
  split at h
  · rename_i n K e
    rw [e]
    rw [← ibeq_eq] at h
    rw [eq_of_beq h]
    rfl
  · cases h
def neq15 (i : Nat) : List OE := ([0, 1, 2, 3, 4, 5, 6, 7, 8, 9, 10, 11, 12, 13, 14] : List Int).map fun n => binE .eql (Lt i) (.int .i64 n) (.bool false)
theorem neq15_ok [Ltr] {i : Nat} {c : Int} (hi : Ltr.v i = some (.int .i64 c)) (h : ¬ (0 ≤ c ∧ c < 15)) : ∀ e ∈ neq15 i, OEOk Tryz.prog e := by
  intro e he
  obtain ⟨n, hn, rfl⟩ := List.mem_map.1 he
  refine bl hi rfl (xi_eq ?_) (to_flat rfl)
  have : c ≠ n := by
    simp only [List.mem_cons, List.not_mem_nil, or_false] at hn
    omega
  simpa using this
theorem many15 {f : FuncId} (h1 : (([0, 1, 2, 3, 4, 5, 6, 7, 8, 9, 10, 11, 12, 13, 14] : List Int).all fun c => manyR f c) = true) (h2 : Sym (neq15 0) [] 40 f [Lt 0] (.int .i64 0)) (c : Int) (w : World) : Calls Tryz.prog f #[.int .i64 c] w fun e w' => e = .returned (.int .i64 (manyI c)) ∧ Below w.heap.size w w' := by
  by_cases h : 0 ≤ c ∧ c < 15
  · have := manyR_sym (List.all_eq_true.1 h1 c (is15 h))
    let _ : Ltr := ltrL []
    exact symJ 40 an an (.cons (.same rfl) .nil) rfl this
  · have e : manyI c = 0 := if_neg h
    rw [e]
    let _ : Ltr := ltrL [.int .i64 c]
    exact symJ 40 (neq15_ok rfl h) an (.cons (.ltr rfl rfl) .nil) rfl h2
theorem many_any (c : Int) (w : World) : Calls Tryz.prog 13 #[.int .i64 c] w fun e w' => e = .returned (.int .i64 (manyI c)) ∧ Below w.heap.size w w' := many15 (by kernel_rfl) (by delta Sym; show _ = _; kernel_rfl) c w
theorem lmany_any (c : Int) (w : World) : Calls Tryz.prog 14 #[.int .i64 c] w fun e w' => e = .returned (.int .i64 (manyI c)) ∧ Below w.heap.size w w' := many15 (by kernel_rfl) (by delta Sym; show _ = _; kernel_rfl) c w
/-- the keys of a map -/
def keysAre (es : List MapEntry) : List (Nat × Nat) → Bool
  | [] => es.isEmpty
  | k :: l => match es with
    | e :: es => veqn 4 e.key (Tbl.keyV k) && keysAre es l
    | [] => false
/-- a key that is not there -/
def noKeyE (i j : Nat) : ME :=
  ⟨fun op ρ H => match op with
    | .lookup t m k false => match ρ k with
      | .agg ⟨[x, y]⟩ => match ρ m with
        | .map (some b) => match look b H.h with
          | some (.mp es _) => bif Nat.beq t 40 && pq x (Lt i) && pq y (Lt j) && keysAre es Tbl.keys then some (.value (.slice none 0 0), H) else none
          | _ => none
        | _ => none
      | _ => none
    | _ => none⟩
theorem fk2_none {a b : Int} : ∀ {l : List (Nat × Nat)} {es : List MapEntry} (i : Nat), keysAre es l = true → (∀ k ∈ l, ¬ (a = k.1 ∧ b = k.2)) → fk2 a b es i = some none
  | [], es, i, h, _ => by
    cases es with
    | nil => rfl
    | cons e es => cases h
  | k :: l, es, i, h, hn => by
    cases es with
    | nil => cases h
    | cons e es =>
      simp only [keysAre, Bool.and_eq_true] at h
      have hk := @veqn_eq noLtr 4 _ _ h.1
      unfold fk2
      rw [hk]
      have : (ibeq a k.1 && ibeq b k.2) = false := by
        rw [← ibeq_eq, ← ibeq_eq]
        have := hn k List.mem_cons_self
        cases h1 : (a == (k.1 : Int)) with
        | false => rfl
        | true => cases h2 : (b == (k.2 : Int)) with
          | false => rfl
          | true => exact absurd ⟨eq_of_beq h1, eq_of_beq h2⟩ this
      show (bif ibeq a k.1 && ibeq b k.2 then _ else _) = _
      rw [this]
      exact fk2_none (i + 1) h.2 fun q hq => hn q (List.mem_cons_of_mem _ hq)
theorem mlk_none {P : Program} {H : RW} {t kt el : TypeId} {m : Value} {a b : Int} {bk c : Nat} {es : List MapEntry} {z : Value} (hu : P.underlying t = some (.map kt el)) (h2 : twoK P kt = true) (h3 : svp P (Go.zeroValue el) = some z) (hz : flat z = true) (hm : m = .map (some bk)) (hl : look bk H.h = some (.mp es c)) (hf : fk2 a b es 0 = some none) : mlk P H t m (.agg ⟨[.int .i64 a, .int .i64 b]⟩) false = some z := by
  have hc : ck P kt (.agg ⟨[.int .i64 a, .int .i64 b]⟩) = true := h2
  have hk : fk P kt (.agg ⟨[.int .i64 a, .int .i64 b]⟩) es = some none := by
    unfold fk
    dsimp only
    rw [h2, cond_true, hf]
  unfold mlk
  rw [hu]
  dsimp only
  rw [hc, cond_true]
  unfold mfd
  rw [hm]
  dsimp only
  rw [hl]
  dsimp only
  rw [hk]
  unfold mans
  dsimp only
  rw [h3]
  dsimp only
  rw [hz]
  rfl
theorem noKey_ok [Ltr] {X : Kep} {base i j : Nat} {a b : Int} (hi : Ltr.v i = some (.int .i64 a)) (hj : Ltr.v j = some (.int .i64 b)) (hn : ∀ k ∈ Tbl.keys, ¬ (a = k.1 ∧ b = k.2)) : MEOk Tryz.prog X base (noKeyE i j) where
  ok := by
    intro o ρ ρ' E H H1 nx w hρ hR e
    simp only [noKeyE] at e
    split at e
    · rename_i t m k ho
      split at e
      · rename_i x y hk
        split at e
        · rename_i bk hm
          split at e
          · rename_i es c hl
            obtain ⟨hc, e⟩ := cond_some e
            simp only [Bool.and_eq_true] at hc
            obtain ⟨rfl, rfl⟩ := Prod.mk.inj (Option.some.inj e)
            have rk := hρ k (by rw [ho]; simp [Op.operands])
            have rm := hρ m (by rw [ho]; simp [Op.operands])
            rw [hk, pq_eq hc.1.1.2, pq_eq hc.1.2] at rk
            have hkk : ρ' k = .agg ⟨[.int .i64 a, .int .i64 b]⟩ := by
              generalize ρ' k = z at rk
              cases rk with
              | same hf => cases hf
              | agg r =>
                cases r with
                | cons r1 t1 =>
                  cases t1 with
                  | cons r2 t2 =>
                    cases t2
                    rw [is_ltr hi E _ r1, is_ltr hj E _ r2]
            have hml : mlk Tryz.prog H t (ρ m) (.agg ⟨[.int .i64 a, .int .i64 b]⟩) false = some (.slice none 0 0) := by
              rw [Nat.eq_of_beq_eq_true hc.1.1.1]
              have h2 : twoK Tryz.prog 36 = true := by kernel_rfl
              have h3 : svp Tryz.prog (Go.zeroValue 37) = some (.slice none 0 0) := by kernel_rfl
              exact mlk_none (Tryz.underlying40) h2 h3 rfl hm hl (fk2_none 0 hc.2 hn)
            obtain ⟨v', h1, h2⟩ := mlk_sound hR rm hml
            refine ⟨E, .value v', w, ?_, Ext.refl E, hR, Kp.refl _ _, h2⟩
            simp only [execOp, ho, hkk]
            exact run_value h1
          · cases e
        · cases e
      · cases e
    · cases e
  q := by
    intro o ρ H H1 nx e
    simp only [noKeyE] at e
    split at e
    · refine ⟨fun c h => (by cases h), fun _ => ?_⟩
      split at e
      · split at e
        · split at e
          · obtain ⟨_, e⟩ := cond_some e
            obtain ⟨rfl, rfl⟩ := Prod.mk.inj (Option.some.inj e)
            exact ⟨rfl, _, rfl⟩
          · cases e
        · cases e
      · cases e
    · cases e
end Go.Proofs.YtjfchpfbpmediaaGreatDoor
