/-
  Texts read: weekdays, lists.
-/
import Derived.Test.YtocpmljkmdpfkaaGreatDoorRg1
namespace Go.Proofs.YtocpmljkmdpfkaaGreatDoor
open Go.RowKit
namespace Rfc
/-- a weekday, from the name at i on: what is read, and whether -/
def pwdF (s : List UInt8) : Nat → Nat → (Int × Int) × Bool
  | _, 0 => ((0, 0), false)
  | i, k + 1 => if Lib.hasSuffix s (wd i) = true then (if Lib.trimSuffix s (wd i) = [] then ((0, (i : Int)), true) else (((pnz (Lib.trimSuffix s (wd i))).getD 0, (i : Int)), (pnz (Lib.trimSuffix s (wd i))).isSome)) else pwdF s (i + 1) k
def pwd (s : List UInt8) : (Int × Int) × Bool := pwdF s 0 7
theorem pwd_bare {s : List UInt8} {i : Nat} (hi : i < 7) (h : Lib.hasSuffix s (wd i) = true) (he : Lib.trimSuffix s (wd i) = []) : pwdF s i (7 - i) = ((0, (i : Int)), true) := by
  rw [show 7 - i = (7 - (i + 1)) + 1 by omega, pwdF, if_pos h, if_pos he]
theorem pwd_num {s : List UInt8} {i : Nat} (hi : i < 7) (h : Lib.hasSuffix s (wd i) = true) (he : ¬ Lib.trimSuffix s (wd i) = []) : pwdF s i (7 - i) = (((pnz (Lib.trimSuffix s (wd i))).getD 0, (i : Int)), (pnz (Lib.trimSuffix s (wd i))).isSome) := by
  rw [show 7 - i = (7 - (i + 1)) + 1 by omega, pwdF, if_pos h, if_neg he]
theorem pwd_next {s : List UInt8} {i : Nat} (hi : i < 7) (h : Lib.hasSuffix s (wd i) = false) : pwdF s i (7 - i) = pwdF s (i + 1) (7 - (i + 1)) := by
  rw [show 7 - i = (7 - (i + 1)) + 1 by omega, pwdF, if_neg (by rw [h]; decide)]
/-- the pieces between one byte and the next -/
def spl (s : List UInt8) (c : UInt8) : List (List UInt8) := Lib.splitK [c] 0 (Lib.count s [c]) s
/-- all of them read, or none -/
def mm {α : Type} (g : List UInt8 → Option α) : List (List UInt8) → Option (List α)
  | [] => some []
  | x :: r => match g x with
    | none => none
    | some y => (mm g r).map (y :: ·)
theorem mm_snoc {α : Type} (g : List UInt8 → Option α) : ∀ (l : List (List UInt8)) (x : List UInt8) (L : List α) (y : α), mm g l = some L → g x = some y → mm g (l ++ [x]) = some (L ++ [y])
  | [], x, L, y, h, hx => by
    obtain rfl := Option.some.inj h
    simp [mm, hx]
  | z :: l, x, L, y, h, hx => by
    unfold mm at h
    show mm g (z :: (l ++ [x])) = _
    unfold mm
    cases hz : g z with
    | none => rw [hz] at h; cases h
    | some v =>
      rw [hz] at h
      obtain ⟨L', h1, rfl⟩ := Option.map_eq_some_iff.1 h
      simp [mm_snoc g l x L' y h1 hx]
theorem mm_fail {α : Type} (g : List UInt8 → Option α) : ∀ (l : List (List UInt8)) (i : Nat) (hi : i < l.length), g l[i] = none → mm g l = none
  | [], i, hi, _ => absurd hi (Nat.not_lt_zero i)
  | z :: l, 0, _, h => by
    have h' : g z = none := h
    simp [mm, h']
  | z :: l, i + 1, hi, h => by
    have := mm_fail g l i (by simpa using hi) (by simpa using h)
    unfold mm
    cases g z with
    | none => rfl
    | some v => simp [this]
def pw (s : List UInt8) : Option (Int × Int) := if (pwd s).2 then some (pwd s).1 else none
def plistI (s : List UInt8) : Option (List Int) := mm pnum (spl s 44)
def plistN (s : List UInt8) : Option (List (Int × Int)) := mm pw (spl s 44)
end Rfc
theorem spl_len (s : List UInt8) (c : UInt8) : (Rfc.spl s c).length = Lib.countB ⟨s.toArray⟩ ⟨#[c]⟩ + 1 := by
  have h1 := Lib.splitB_data ⟨#[c]⟩ 0 (Lib.countB ⟨s.toArray⟩ ⟨#[c]⟩) ⟨s.toArray⟩
  have h2 := Lib.splitB_all ⟨#[c]⟩ (Nat.le_refl 1) 0 _ ⟨s.toArray⟩ rfl
  have h3 := congrArg List.length h1
  rw [List.length_map, h2] at h3
  rw [h3]
  rfl
theorem split_any (s : List UInt8) (c : UInt8) (w : World) (hT : Tabs w) (hl : s.length ≤ 100000) : Calls Tryz.prog 15 #[.string ⟨s.toArray⟩, .string ⟨#[c]⟩] w fun e w' => ∃ v, e = .returned v ∧ (v = .slice (some ⟨w.heap.size, 0, none⟩) (Rfc.spl s c).length (Rfc.spl s c).length ∧ Blk w' w.heap.size 9 ((Rfc.spl s c).map fun x => Value.string ⟨x.toArray⟩).toArray) ∧ Below w.heap.size w w' := by
  obtain ⟨m, hm⟩ := hT.max
  refine (Tryz.strings_Split ⟨s.toArray⟩ ⟨#[c]⟩ m w (by rw [ba_size]; omega) hm (Nat.le_refl 1)).mono ?_
  rintro e w' ⟨rfl, rfl⟩
  have h1 := Lib.splitB_data ⟨#[c]⟩ 0 (Lib.countB ⟨s.toArray⟩ ⟨#[c]⟩) ⟨s.toArray⟩
  have h2 : Rfc.spl s c = (Lib.splitB ⟨#[c]⟩ 0 (Lib.countB ⟨s.toArray⟩ ⟨#[c]⟩) ⟨s.toArray⟩).map (·.data.toList) := by
    rw [h1]
    rfl
  refine ⟨_, rfl, ⟨by rw [spl_len], ?_⟩, (Below.refl _ _).alloc (Nat.le_refl _) _⟩
  have e2 : (Rfc.spl s c).map (fun x => Value.string ⟨x.toArray⟩) = (Lib.splitB ⟨#[c]⟩ 0 (Lib.countB ⟨s.toArray⟩ ⟨#[c]⟩) ⟨s.toArray⟩).map Value.string := by
    rw [h2, List.map_map]
    exact List.map_congr_left (fun x _ => by simp)
  rw [e2]
  exact Blk.alloc _ _ _
theorem piece_le : ∀ (k : Nat) (s : List UInt8) (c : UInt8), ∀ x ∈ Lib.splitK [c] 0 k s, x.length ≤ s.length
  | 0, s, c, x, hx => by
    unfold Lib.splitK at hx
    simp at hx
    rw [hx]
    exact Nat.le_refl _
  | k + 1, s, c, x, hx => by
    unfold Lib.splitK at hx
    split at hx
    · simp at hx
      rw [hx]
      exact Nat.le_refl _
    · rcases List.mem_cons.1 hx with rfl | hx
      · simp
        omega
      · have := piece_le k _ c x hx
        rw [List.length_drop] at this
        omega
theorem cutSuf_any (s p : List UInt8) (w : World) (hl : s.length ≤ 100000) : Calls Tryz.prog 121 #[.string ⟨s.toArray⟩, .string ⟨p.toArray⟩] w fun e w' => ∃ v, e = .returned v ∧ v = .tuple #[.string ⟨(Lib.trimSuffix s p).toArray⟩, .bool (Lib.hasSuffix s p)] ∧ w = w' :=
  (Tryz.strings_CutSuffix ⟨s.toArray⟩ ⟨p.toArray⟩ w (by rw [ba_size]; omega)).mono fun e w' ⟨he, hw⟩ => ⟨_, he, by rw [ba_data, ba_data], hw.symm⟩
theorem trim_le (s p : List UInt8) : (Lib.trimSuffix s p).length ≤ s.length := by
  unfold Lib.trimSuffix
  split
  · simp
  · exact Nat.le_refl _
theorem append_int_b {w : World} {base : Nat} {v : Value} {L : List Int} {x : Int} {g c : Nat} (h : OwnI w base v L) (hx : w.cell? ⟨g, 0, none⟩ = some (.int .i64 x)) (hl : L.length ≤ 1000000) (hB : base ≤ w.heap.size) :
    ∃ v' w', (Builtin.append_ #[33, 33] 33 #[v, .slice (some ⟨g, 0, none⟩) 1 c]).run Tryz.prog w = .ok v' w' ∧ OwnI w' base v' (L ++ [x]) ∧ Below base w w' ∧ w.heap.size ≤ w'.heap.size := by
  obtain ⟨i, hi, hz, hs, hb⟩ := info_of (T := 3) (z := .int .i64 0) (n := 1) (b := 8) (by kernel_rfl) (by kernel_rfl) (by kernel_rfl)
  obtain ⟨v', w', hr, ho, hg, -⟩ := run_append_own (P := Tryz.prog) w base 33 33 3 i (.int .i64 0) 1 8 Tryz.underlying33 hi hz hs hb rfl (by decide) v L.length _ h ⟨g, 0, none⟩ 1 c [.int .i64 x] rfl
    (fun j u hu => by
      cases j with
      | zero => obtain rfl : Value.int .i64 x = u := by simpa using hu
                exact hx
      | succ j => simp at hu) (by simp [Value.oneCell']) (by unfold maxLen; omega) (by omega) hB
  refine ⟨v', w', hr, ?_, (exc_grown (b := base) hg (fun g' hg' => (World.ownsRow.lt h g' hg').1) hB).below (Nat.le_refl _), hg.size⟩
  unfold OwnI
  simpa using ho
theorem append_nth_b {w : World} {base : Nat} {v : Value} {L : List (Int × Int)} {x y : Int} {g c : Nat} (h : OwnN w base v L) (hx : w.cell? ⟨g, 0, none⟩ = some (.int .i64 x)) (hy : w.cell? ⟨g, 1, none⟩ = some (.int .i64 y)) (hl : L.length ≤ 1000000) (hB : base ≤ w.heap.size) :
    ∃ v' w', (Builtin.append_ #[34, 34] 34 #[v, .slice (some ⟨g, 0, none⟩) 1 c]).run Tryz.prog w = .ok v' w' ∧ OwnN w' base v' (L ++ [(x, y)]) ∧ Below base w w' ∧ w.heap.size ≤ w'.heap.size := by
  obtain ⟨i, hi, hz, hs, hb⟩ := info_of (T := 55) (z := .agg #[.int .i64 0, .int .i64 0]) (n := 2) (b := 16) (by kernel_rfl) (by kernel_rfl) (by kernel_rfl)
  obtain ⟨v', w', hr, ho, hg, -⟩ := run_append_own (P := Tryz.prog) w base 34 34 55 i (.agg #[.int .i64 0, .int .i64 0]) 2 16 Tryz.underlying34 hi hz hs hb rfl (by decide) v L.length _ h ⟨g, 0, none⟩ 1 c [.int .i64 x, .int .i64 y] rfl
    (fun j u hu => by
      match j with
      | 0 => obtain rfl : Value.int .i64 x = u := by simpa using hu
             exact hx
      | 1 => obtain rfl : Value.int .i64 y = u := by simpa using hu
             exact hy
      | j + 2 => simp at hu) (by simp [Value.oneCell']) (by unfold maxLen; omega) (by omega) hB
  refine ⟨v', w', hr, ?_, (exc_grown (b := base) hg (fun g' hg' => (World.ownsRow.lt h g' hg').1) hB).below (Nat.le_refl _), hg.size⟩
  unfold OwnN
  simpa using ho
section
variable {w : World} {ρ : Operand → Value} {o : Oper} {x y : Operand} {v u : Value} {n : Int} {i : Nat} {k c b : Nat}
theorem c_Split (ho : o.op = .call ⟨.value (.func 15), #[x, y], #[9, 9]⟩) (hf : ρ (.func 15) = .func (.func 15) #[] #[]) (hx : ρ x = v) (hy : ρ y = u) : (execOp ρ o).run Tryz.prog w = .ok (.enter 15 #[v, u]) w := by
  simp only [execOp, ho]
  go_simp
theorem c_CutSuf (ho : o.op = .call ⟨.value (.func 121), #[x, y], #[9, 9]⟩) (hf : ρ (.func 121) = .func (.func 121) #[] #[]) (hx : ρ x = v) (hy : ρ y = u) : (execOp ρ o).run Tryz.prog w = .ok (.enter 121 #[v, u]) w := by
  simp only [execOp, ho]
  go_simp
theorem c_pNz (ho : o.op = .call ⟨.value (.func 64), #[x], #[9]⟩) (hf : ρ (.func 64) = .func (.func 64) #[] #[]) (hx : ρ x = v) : (execOp ρ o).run Tryz.prog w = .ok (.enter 64 #[v]) w := by
  simp only [execOp, ho]
  go_simp
theorem c_valNum (ho : o.op = .call ⟨.value x, #[y], #[9]⟩) (hf : ρ x = .func (.func 63) #[] #[]) (hy : ρ y = u) : (execOp ρ o).run Tryz.prog w = .ok (.enter 63 #[u]) w := by
  simp only [execOp, ho]
  go_simp
theorem c_valWd (ho : o.op = .call ⟨.value x, #[y], #[9]⟩) (hf : ρ x = .func (.func 68) #[] #[]) (hy : ρ y = u) : (execOp ρ o).run Tryz.prog w = .ok (.enter 68 #[u]) w := by
  simp only [execOp, ho]
  go_simp
theorem k_buildN1 (ho : o.op = .build 55 #[(1, x)]) (hx : ρ x = .int .i64 n) : (execOp ρ o).run Tryz.prog w = .ok (.value (.agg #[.int .i64 0, .int .i64 n])) w := by
  simp only [execOp, ho]
  go_simp
theorem k_buildN0 (ho : o.op = .build 55 #[]) : (execOp ρ o).run Tryz.prog w = .ok (.value (.agg #[.int .i64 0, .int .i64 0])) w := by
  simp only [execOp, ho]
  go_simp
theorem k_lenStr (ho : o.op = .call ⟨.builtin .len, #[x], #[45]⟩) (hx : ρ x = .slice (some ⟨b, 0, none⟩) k c) : (execOp ρ o).run Tryz.prog w = .ok (.value (.int .i64 k)) w := by
  simp only [execOp, ho]
  go_simp
end

theorem results_day {tmps : Array Value} {w : World} {b : Nat} {x y : Int} {r : Value} (hd : tmps.getD 2 undef = .pointer (some ⟨b, 0, none⟩)) (h : Blk w b 55 #[.int .i64 x, .int .i64 y]) (h3 : tmps.getD 3 undef = r) :
    (results Tryz.f68 tmps).run Tryz.prog w = .ok (.tuple #[.agg #[.int .i64 x, .int .i64 y], r]) w := by
  have c0 := h.cell 0
  have c1 := h.cell 1
  have hr : tmps[2]?.getD undef = .pointer (some ⟨b, 0, none⟩) := by simpa using hd
  have hr3 : tmps[3]?.getD undef = r := by simpa using h3
  have hl : (loadVar 55 ⟨b, 0, none⟩).run Tryz.prog w = .ok (.agg #[.int .i64 x, .int .i64 y]) w := by go_simp
  simp [results, hr, hr3, asAddr, hl]
noncomputable def pwBody : Code := Tryz.f68.body.getD .skip
set_option maxRecDepth 100000 in
set_option maxHeartbeats 1000000 in
theorem pw_any (s : List UInt8) (w : World) (hT : Tabs w) (hl : s.length ≤ 100000) :
    Calls Tryz.prog 68 #[.string ⟨s.toArray⟩] w fun e w' => ∃ v, e = .returned v ∧ v = .tuple #[.agg #[.int .i64 (Rfc.pwd s).1.1, .int .i64 (Rfc.pwd s).1.2], .bool (Rfc.pwd s).2] ∧ Below w.heap.size w w' := by
  refine calls_of_wp Tryz.func68 (show Tryz.f68.body = some pwBody from rfl) ?_
  generalize hAA : (Act.mk (#[.string ⟨s.toArray⟩] ++ Array.replicate (Tryz.f68.ntmps - (#[.string ⟨s.toArray⟩] : Array Value).size) undef) []) = a
  have hs : a.tmps.size = 38 := by rw [← hAA]; simp [Tryz.ntmps68]
  have hd : a.defers = [] := by rw [← hAA]
  have h0 : a.tmps.getD 0 undef = .string ⟨s.toArray⟩ := by rw [← hAA]; simp
  clear hAA
  have hfin : ∀ (a' : Act) (w' : World) (x y : Int) (r : Bool), a'.defers = [] → a'.tmps.getD 2 undef = .pointer (some ⟨w.heap.size, 0, none⟩) → Blk w' w.heap.size 55 #[.int .i64 x, .int .i64 y] → a'.tmps.getD 3 undef = .bool r → Rfc.pwd s = ((x, y), r) → Below w.heap.size w w' → (bodyPost Tryz.prog Tryz.f68 fun e w' => ∃ v, e = .returned v ∧ v = .tuple #[.agg #[.int .i64 (Rfc.pwd s).1.1, .int .i64 (Rfc.pwd s).1.2], .bool (Rfc.pwd s).2] ∧ Below w.heap.size w w') .ret a' w' := by
    intro a' w' x y r k1 k2 k3 k4 k5 k6
    exact ⟨k1, _, results_day k2 k3 k4, _, rfl, by rw [k5], k6⟩
  generalize (bodyPost Tryz.prog Tryz.f68 fun e w' => ∃ v, e = .returned v ∧ v = .tuple #[.agg #[.int .i64 (Rfc.pwd s).1.1, .int .i64 (Rfc.pwd s).1.2], .bool (Rfc.pwd s).2] ∧ Below w.heap.size w w') = Q at hfin
  unfold pwBody
  conv => arg 2; whnf
  refine wp_seq ?_
  refine wp_region (show wpOps _ _ _ [0, 1] _ _ from ?_)
  refine opL 0 2 (v := .pointer (some ⟨w.heap.size, 0, none⟩)) (w' := (w.alloc (.cells #[.int .i64 0, .int .i64 0] 55))) (by kernel_rfl) (frZ hs) ?_ ?_
  · exact frY rfl (k_allocN rfl)
  refine frN1 hs hd h0 ?_; clear hs hd h0; intro a hs hd h0 h2
  obtain ⟨w1, hw1⟩ : ∃ wn, wn = w.alloc (.cells #[.int .i64 0, .int .i64 0] 55) := ⟨_, rfl⟩
  rw [← hw1]
  have q1 : Blk w1 w.heap.size 55 #[.int .i64 0, .int .i64 0] := by rw [hw1]; exact Blk.alloc _ _ _
  have l1 : Below w.heap.size w w1 := by rw [hw1]; exact (Below.refl _ _).alloc (Nat.le_refl _) _
  clear hw1
  have hT1 := hT.below l1
  refine opL 1 3 (v := .bool false) (w' := w1) (by kernel_rfl) (frZ hs) ?_ ?_
  · exact frY rfl (k_assign rfl rfl)
  refine frN2 hs hd h0 h2 ?_; clear hs hd h0 h2; intro a hs hd h0 h2 h3
  refine wp_seq ?_
  refine wp_seq ?_
  refine wp_region (show wpOps _ _ _ [0, 1] _ _ from ?_)
  refine opL 0 10 (v := .agg #[.string ⟨(Rfc.wd 0).toArray⟩, .string ⟨(Rfc.wd 1).toArray⟩, .string ⟨(Rfc.wd 2).toArray⟩, .string ⟨(Rfc.wd 3).toArray⟩, .string ⟨(Rfc.wd 4).toArray⟩, .string ⟨(Rfc.wd 5).toArray⟩, .string ⟨(Rfc.wd 6).toArray⟩]) (w' := w1) (by kernel_rfl) (frZ hs) ?_ ?_
  · exact frY rfl (k_loadWD rfl rfl hT1)
  revert hs hd h0 h2 h3; refine frM3 ?_; intro a hs hd h0 h2 h3 h10
  refine opL 1 11 (v := .int .i64 0) (w' := w1) (by kernel_rfl) (frZ hs) ?_ ?_
  · exact frY rfl (k_move rfl rfl)
  revert hs hd h0 h2 h3 h10; refine frM4 ?_; intro a hs hd h0 h2 h3 h10 h11
  refine wp_block ?_
  refine wp_loop (fun a wx => wx = w1 ∧ ∃ i, i ≤ 7 ∧ a.defers = [] ∧ a.tmps.size = 38 ∧ a.tmps.getD 0 undef = .string ⟨s.toArray⟩ ∧ a.tmps.getD 2 undef = .pointer (some ⟨w.heap.size, 0, none⟩) ∧ a.tmps.getD 10 undef = .agg #[.string ⟨(Rfc.wd 0).toArray⟩, .string ⟨(Rfc.wd 1).toArray⟩, .string ⟨(Rfc.wd 2).toArray⟩, .string ⟨(Rfc.wd 3).toArray⟩, .string ⟨(Rfc.wd 4).toArray⟩, .string ⟨(Rfc.wd 5).toArray⟩, .string ⟨(Rfc.wd 6).toArray⟩] ∧ a.tmps.getD 11 undef = .int .i64 (i : Nat) ∧ Rfc.pwd s = Rfc.pwdF s i (7 - i)) (fun a _ => (7 - intOf (a.tmps.getD 11 undef)).toNat) ⟨rfl, 0, Nat.zero_le _, hd, hs, h0, h2, h10, h11, rfl⟩ ?_
  clear hs hd h0 h2 h3 h10 h11 a
  rintro a wx ⟨rfl, i, hi, hd, hs, h0, h2, h10, h11, hidx⟩
  have e11 := h11
  rw [e11]
  clear e11
  by_cases hlt : i < 7
  · cases hS : Lib.hasSuffix s (Rfc.wd i)
    ·
      refine wp_seq ?_
      refine wp_region (show wpOps _ _ _ [0] _ _ from ?_)
      refine opL 0 12 (v := .bool true) (w' := wx) (by kernel_rfl) (frZ hs) ?_ ?_
      · exact frY rfl (o_ltI rfl (ev_tmp h11) rfl (decide_eq_true (by omega)))
      refine frN4 hs hd h0 h2 h10 h11 ?_; clear hs hd h0 h2 h10 h11; intro a hs hd h0 h2 h10 h11 h12
      refine wp_seq ?_
      refine wp_cond_true (ev_tmp h12) ?_
      refine wp_skip ?_
      refine wp_seq ?_
      refine wp_block ?_
      refine wp_seq ?_
      refine wp_region (show wpOps _ _ _ [0, 1, 2, 3] _ _ from ?_)
      refine opL 0 13 (v := .int .i64 i) (w' := wx) (by kernel_rfl) (frZ hs) ?_ ?_
      · exact frY rfl (k_move rfl (ev_tmp h11))
      revert hs hd h0 h2 h10 h11 h12; refine frM5 ?_; intro a hs hd h0 h2 h10 h11 h12 h13
      refine opL 1 14 (v := .string ⟨(Rfc.wd i).toArray⟩) (w' := wx) (by kernel_rfl) (frZ hs) ?_ ?_
      · exact frY rfl (k_idxWD rfl (ev_tmp h10) (ev_tmp h11) hlt)
      revert hs hd h0 h2 h10 h11 h12 h13; refine frM6 ?_; intro a hs hd h0 h2 h10 h11 h12 h13 h14
      refine opL 2 4 (v := .int .i64 i) (w' := wx) (by kernel_rfl) (frZ hs) ?_ ?_
      · exact frY rfl (k_assign rfl (ev_tmp h13))
      clear h13; revert hs hd h0 h2 h10 h11 h12 h14; refine frM6 ?_; intro a hs hd h0 h2 h10 h11 h12 h14 h4
      refine opL 3 5 (v := .string ⟨(Rfc.wd i).toArray⟩) (w' := wx) (by kernel_rfl) (frZ hs) ?_ ?_
      · exact frY rfl (k_assign rfl (ev_tmp h14))
      clear h14; revert hs hd h0 h2 h10 h11 h12 h4; refine frM6 ?_; intro a hs hd h0 h2 h10 h11 h12 h4 h5
      refine wp_seq ?_
      refine wp_region (show wpOps _ _ _ [0, 1, 2, 3, 4, 5, 6, 7] _ _ from ?_)
      refine opL 0 16 (v := .string ⟨s.toArray⟩) (w' := wx) (by kernel_rfl) (frZ hs) ?_ ?_
      · exact frY rfl (k_move rfl (ev_tmp h0))
      revert hs hd h0 h2 h10 h11 h12 h4 h5; refine frM7 ?_; intro a hs hd h0 h2 h10 h11 h12 h4 h5 h16
      refine opL 1 17 (v := .string ⟨(Rfc.wd i).toArray⟩) (w' := wx) (by kernel_rfl) (frZ hs) ?_ ?_
      · exact frY rfl (k_move rfl (ev_tmp h5))
      revert hs hd h0 h2 h10 h11 h12 h4 h5 h16; refine frM8 ?_; intro a hs hd h0 h2 h10 h11 h12 h4 h5 h16 h17
      have hc := cutSuf_any s (Rfc.wd i) wx hl
      have hx := fun ops Q rest d a i h1 h2 h3 => opL_call (P := Tryz.prog) (ops := ops) (Q := Q) (a := a) (w := wx) (rest := rest) i d h1 h2 h3 hc
      refine hx _ _ _ 18 _ 2 ?z379a ?z379b ?z379 ?z380
      case z379a => kernel_rfl
      case z379b => (rw [hs]; decide)
      case z379 => exact frY rfl (c_CutSuf rfl rfl (ev_tmp h16) (ev_tmp h17))
      case z380 =>
      rintro _ wx a ⟨rfl, rfl⟩ F0
      rw [hS] at F0
      replace hs := F0.z.trans hs
      replace hd := F0.e.trans hd
      replace h0 := (F0.n 0 (by decide)).trans h0
      replace h2 := (F0.n 2 (by decide)).trans h2
      replace h10 := (F0.n 10 (by decide)).trans h10
      replace h11 := (F0.n 11 (by decide)).trans h11
      replace h12 := (F0.n 12 (by decide)).trans h12
      replace h4 := (F0.n 4 (by decide)).trans h4
      replace h5 := (F0.n 5 (by decide)).trans h5
      clear h16
      clear h17
      have h18 := F0.s
      clear F0
      clear hx hc
      refine opL 3 15 (v := .tuple #[.string ⟨(Lib.trimSuffix s (Rfc.wd i)).toArray⟩, .bool false]) (w' := wx) (by kernel_rfl) (frZ hs) ?_ ?_
      · exact frY rfl (k_move rfl (ev_tmp h18))
      refine frN7 hs hd h0 h2 h10 h11 h12 h4 h5 ?_; clear hs hd h0 h2 h10 h11 h12 h4 h5 h18; intro a hs hd h0 h2 h10 h11 h12 h4 h5 h15
      refine opL 4 19 (v := .string ⟨(Lib.trimSuffix s (Rfc.wd i)).toArray⟩) (w' := wx) (by kernel_rfl) (frZ hs) ?_ ?_
      · exact frY rfl (k_extract rfl (ev_tmp h15) rfl)
      revert hs hd h0 h2 h10 h11 h12 h4 h5 h15; refine frM8 ?_; intro a hs hd h0 h2 h10 h11 h12 h4 h5 h15 h19
      refine opL 5 20 (v := .bool false) (w' := wx) (by kernel_rfl) (frZ hs) ?_ ?_
      · exact frY rfl (k_extract rfl (ev_tmp h15) rfl)
      clear h15; revert hs hd h0 h2 h10 h11 h12 h4 h5 h19; refine frM8 ?_; intro a hs hd h0 h2 h10 h11 h12 h4 h5 h19 h20
      refine opL 6 6 (v := .string ⟨(Lib.trimSuffix s (Rfc.wd i)).toArray⟩) (w' := wx) (by kernel_rfl) (frZ hs) ?_ ?_
      · exact frY rfl (k_assign rfl (ev_tmp h19))
      clear h19; revert hs hd h0 h2 h10 h11 h12 h4 h5 h20; refine frM8 ?_; intro a hs hd h0 h2 h10 h11 h12 h4 h5 h20 h6
      refine opL 7 7 (v := .bool false) (w' := wx) (by kernel_rfl) (frZ hs) ?_ ?_
      · exact frY rfl (k_assign rfl (ev_tmp h20))
      clear h20; revert hs hd h0 h2 h10 h11 h12 h4 h5 h6; refine frM8 ?_; intro a hs hd h0 h2 h10 h11 h12 h4 h5 h6 h7
      refine wp_seq ?_
      refine wp_seq ?_
      refine wp_region (show wpOps _ _ _ [0, 1] _ _ from ?_)
      refine opL 0 21 (v := .bool false) (w' := wx) (by kernel_rfl) (frZ hs) ?_ ?_
      · exact frY rfl (k_move rfl (ev_tmp h7))
      revert hs hd h0 h2 h10 h11 h12 h4 h5 h6 h7; refine frM9 ?_; intro a hs hd h0 h2 h10 h11 h12 h4 h5 h6 h7 h21
      refine opL 1 22 (v := .bool true) (w' := wx) (by kernel_rfl) (frZ hs) ?_ ?_
      · exact frY rfl (o_not rfl (ev_tmp h21) rfl)
      clear h21; revert hs hd h0 h2 h10 h11 h12 h4 h5 h6 h7; refine frM9 ?_; intro a hs hd h0 h2 h10 h11 h12 h4 h5 h6 h7 h22
      refine wp_cond_true (ev_tmp h22) ?_
      refine wp_exit ?_
      change Code.wp _ _ _ _ _
      refine wp_region (show wpOps _ _ _ [0, 1] _ _ from ?_)
      refine opL 0 36 (v := .int .i64 (i + 1 : Nat)) (w' := wx) (by kernel_rfl) (frZ hs) ?_ ?_
      · exact frY rfl (o_addI rfl (ev_tmp h11) rfl (wrap_small (n := (i : Int) + 1) (by omega) (by omega)))
      refine frN10 hs hd h0 h2 h10 h11 h12 h4 h5 h6 h7 h22 ?_; clear hs hd h0 h2 h10 h11 h12 h4 h5 h6 h7 h22; intro a hs hd h0 h2 h10 h11 h12 h4 h5 h6 h7 h22 h36
      refine opL 1 11 (v := .int .i64 (i + 1 : Nat)) (w' := wx) (by kernel_rfl) (frZ hs) ?_ ?_
      · exact frY rfl (k_move rfl (ev_tmp h36))
      clear h11 h36; revert hs hd h0 h2 h10 h12 h4 h5 h6 h7 h22; refine frM9 ?_; intro a hs hd h0 h2 h10 h12 h4 h5 h6 h7 h22 h11
      refine ⟨⟨rfl, i + 1, hlt, hd, hs, h0, h2, h10, h11, by rw [hidx, Rfc.pwd_next hlt hS]⟩, ?_⟩
      rw [h11]
      simp only [intOf]
      omega
    · by_cases he : Lib.trimSuffix s (Rfc.wd i) = []
      ·
        refine wp_seq ?_
        refine wp_region (show wpOps _ _ _ [0] _ _ from ?_)
        refine opL 0 12 (v := .bool true) (w' := wx) (by kernel_rfl) (frZ hs) ?_ ?_
        · exact frY rfl (o_ltI rfl (ev_tmp h11) rfl (decide_eq_true (by omega)))
        refine frN4 hs hd h0 h2 h10 h11 ?_; clear hs hd h0 h2 h10 h11; intro a hs hd h0 h2 h10 h11 h12
        refine wp_seq ?_
        refine wp_cond_true (ev_tmp h12) ?_
        refine wp_skip ?_
        refine wp_seq ?_
        refine wp_block ?_
        refine wp_seq ?_
        refine wp_region (show wpOps _ _ _ [0, 1, 2, 3] _ _ from ?_)
        refine opL 0 13 (v := .int .i64 i) (w' := wx) (by kernel_rfl) (frZ hs) ?_ ?_
        · exact frY rfl (k_move rfl (ev_tmp h11))
        revert hs hd h0 h2 h10 h11 h12; refine frM5 ?_; intro a hs hd h0 h2 h10 h11 h12 h13
        refine opL 1 14 (v := .string ⟨(Rfc.wd i).toArray⟩) (w' := wx) (by kernel_rfl) (frZ hs) ?_ ?_
        · exact frY rfl (k_idxWD rfl (ev_tmp h10) (ev_tmp h11) hlt)
        revert hs hd h0 h2 h10 h11 h12 h13; refine frM6 ?_; intro a hs hd h0 h2 h10 h11 h12 h13 h14
        refine opL 2 4 (v := .int .i64 i) (w' := wx) (by kernel_rfl) (frZ hs) ?_ ?_
        · exact frY rfl (k_assign rfl (ev_tmp h13))
        clear h13; revert hs hd h0 h2 h10 h11 h12 h14; refine frM6 ?_; intro a hs hd h0 h2 h10 h11 h12 h14 h4
        refine opL 3 5 (v := .string ⟨(Rfc.wd i).toArray⟩) (w' := wx) (by kernel_rfl) (frZ hs) ?_ ?_
        · exact frY rfl (k_assign rfl (ev_tmp h14))
        clear h14; revert hs hd h0 h2 h10 h11 h12 h4; refine frM6 ?_; intro a hs hd h0 h2 h10 h11 h12 h4 h5
        refine wp_seq ?_
        refine wp_region (show wpOps _ _ _ [0, 1, 2, 3, 4, 5, 6, 7] _ _ from ?_)
        refine opL 0 16 (v := .string ⟨s.toArray⟩) (w' := wx) (by kernel_rfl) (frZ hs) ?_ ?_
        · exact frY rfl (k_move rfl (ev_tmp h0))
        revert hs hd h0 h2 h10 h11 h12 h4 h5; refine frM7 ?_; intro a hs hd h0 h2 h10 h11 h12 h4 h5 h16
        refine opL 1 17 (v := .string ⟨(Rfc.wd i).toArray⟩) (w' := wx) (by kernel_rfl) (frZ hs) ?_ ?_
        · exact frY rfl (k_move rfl (ev_tmp h5))
        revert hs hd h0 h2 h10 h11 h12 h4 h5 h16; refine frM8 ?_; intro a hs hd h0 h2 h10 h11 h12 h4 h5 h16 h17
        have hc := cutSuf_any s (Rfc.wd i) wx hl
        have hx := fun ops Q rest d a i h1 h2 h3 => opL_call (P := Tryz.prog) (ops := ops) (Q := Q) (a := a) (w := wx) (rest := rest) i d h1 h2 h3 hc
        refine hx _ _ _ 18 _ 2 ?z413a ?z413b ?z413 ?z414
        case z413a => kernel_rfl
        case z413b => (rw [hs]; decide)
        case z413 => exact frY rfl (c_CutSuf rfl rfl (ev_tmp h16) (ev_tmp h17))
        case z414 =>
        rintro _ wx a ⟨rfl, rfl⟩ F0
        rw [hS] at F0
        replace hs := F0.z.trans hs
        replace hd := F0.e.trans hd
        replace h0 := (F0.n 0 (by decide)).trans h0
        replace h2 := (F0.n 2 (by decide)).trans h2
        replace h10 := (F0.n 10 (by decide)).trans h10
        replace h11 := (F0.n 11 (by decide)).trans h11
        replace h12 := (F0.n 12 (by decide)).trans h12
        replace h4 := (F0.n 4 (by decide)).trans h4
        replace h5 := (F0.n 5 (by decide)).trans h5
        clear h16
        clear h17
        have h18 := F0.s
        clear F0
        clear hx hc
        refine opL 3 15 (v := .tuple #[.string ⟨(Lib.trimSuffix s (Rfc.wd i)).toArray⟩, .bool true]) (w' := wx) (by kernel_rfl) (frZ hs) ?_ ?_
        · exact frY rfl (k_move rfl (ev_tmp h18))
        refine frN7 hs hd h0 h2 h10 h11 h12 h4 h5 ?_; clear hs hd h0 h2 h10 h11 h12 h4 h5 h18; intro a hs hd h0 h2 h10 h11 h12 h4 h5 h15
        refine opL 4 19 (v := .string ⟨(Lib.trimSuffix s (Rfc.wd i)).toArray⟩) (w' := wx) (by kernel_rfl) (frZ hs) ?_ ?_
        · exact frY rfl (k_extract rfl (ev_tmp h15) rfl)
        revert hs hd h0 h2 h10 h11 h12 h4 h5 h15; refine frM8 ?_; intro a hs hd h0 h2 h10 h11 h12 h4 h5 h15 h19
        refine opL 5 20 (v := .bool true) (w' := wx) (by kernel_rfl) (frZ hs) ?_ ?_
        · exact frY rfl (k_extract rfl (ev_tmp h15) rfl)
        clear h15; revert hs hd h0 h2 h10 h11 h12 h4 h5 h19; refine frM8 ?_; intro a hs hd h0 h2 h10 h11 h12 h4 h5 h19 h20
        refine opL 6 6 (v := .string ⟨(Lib.trimSuffix s (Rfc.wd i)).toArray⟩) (w' := wx) (by kernel_rfl) (frZ hs) ?_ ?_
        · exact frY rfl (k_assign rfl (ev_tmp h19))
        clear h19; revert hs hd h0 h2 h10 h11 h12 h4 h5 h20; refine frM8 ?_; intro a hs hd h0 h2 h10 h11 h12 h4 h5 h20 h6
        refine opL 7 7 (v := .bool true) (w' := wx) (by kernel_rfl) (frZ hs) ?_ ?_
        · exact frY rfl (k_assign rfl (ev_tmp h20))
        clear h20; revert hs hd h0 h2 h10 h11 h12 h4 h5 h6; refine frM8 ?_; intro a hs hd h0 h2 h10 h11 h12 h4 h5 h6 h7
        refine wp_seq ?_
        refine wp_seq ?_
        refine wp_region (show wpOps _ _ _ [0, 1] _ _ from ?_)
        refine opL 0 21 (v := .bool true) (w' := wx) (by kernel_rfl) (frZ hs) ?_ ?_
        · exact frY rfl (k_move rfl (ev_tmp h7))
        revert hs hd h0 h2 h10 h11 h12 h4 h5 h6 h7; refine frM9 ?_; intro a hs hd h0 h2 h10 h11 h12 h4 h5 h6 h7 h21
        refine opL 1 22 (v := .bool false) (w' := wx) (by kernel_rfl) (frZ hs) ?_ ?_
        · exact frY rfl (o_not rfl (ev_tmp h21) rfl)
        clear h21; revert hs hd h0 h2 h10 h11 h12 h4 h5 h6 h7; refine frM9 ?_; intro a hs hd h0 h2 h10 h11 h12 h4 h5 h6 h7 h22
        refine wp_cond_false (ev_tmp h22) ?_
        refine wp_skip ?_
        refine wp_seq ?_
        refine wp_seq ?_
        refine wp_region (show wpOps _ _ _ [0, 1] _ _ from ?_)
        refine opL 0 23 (v := .string ⟨(Lib.trimSuffix s (Rfc.wd i)).toArray⟩) (w' := wx) (by kernel_rfl) (frZ hs) ?_ ?_
        · exact frY rfl (k_move rfl (ev_tmp h6))
        revert hs hd h0 h2 h10 h11 h12 h4 h5 h6 h7 h22; refine frM10 ?_; intro a hs hd h0 h2 h10 h11 h12 h4 h5 h6 h7 h22 h23
        refine opL 1 24 (v := .bool true) (w' := wx) (by kernel_rfl) (frZ hs) ?_ ?_
        · exact frY rfl (o_eqStr rfl (ev_tmp h23) rfl (by rw [ba_list, show (⟨#[]⟩ : ByteArray).toList = [] from ba_list []]; simp [he]))
        clear h23; revert hs hd h0 h2 h10 h11 h12 h4 h5 h6 h7 h22; refine frM10 ?_; intro a hs hd h0 h2 h10 h11 h12 h4 h5 h6 h7 h22 h24
        refine wp_cond_true (ev_tmp h24) ?_
        refine wp_seq ?_
        refine wp_region (show wpOps _ _ _ [0, 1, 2, 3] _ _ from ?_)
        refine opL 0 25 (v := .int .i64 i) (w' := wx) (by kernel_rfl) (frZ hs) ?_ ?_
        · exact frY rfl (k_move rfl (ev_tmp h4))
        revert hs hd h0 h2 h10 h11 h12 h4 h5 h6 h7 h22 h24; refine frM11 ?_; intro a hs hd h0 h2 h10 h11 h12 h4 h5 h6 h7 h22 h24 h25
        refine opL 1 26 (v := .agg #[.int .i64 0, .int .i64 i]) (w' := wx) (by kernel_rfl) (frZ hs) ?_ ?_
        · exact frY rfl (k_buildN1 rfl (ev_tmp h25))
        clear h25; revert hs hd h0 h2 h10 h11 h12 h4 h5 h6 h7 h22 h24; refine frM11 ?_; intro a hs hd h0 h2 h10 h11 h12 h4 h5 h6 h7 h22 h24 h26
        refine opL_store 2 (w' := (wx.setRow w.heap.size #[.int .i64 0, .int .i64 i])) (by kernel_rfl) ?_ ?_
        · exact frY rfl (k_storeS2 rfl (ev_tmp h2) (ev_tmp h26) q1 (by kernel_rfl) rfl rfl (by simp [Value.oneCell']))
        clear h26
        have qe := q1.setRow (cs := #[.int .i64 0, .int .i64 i])
        have le := (exc_setRow wx w.heap.size #[.int .i64 0, .int .i64 i] w.heap.size).below (Nat.le_refl _)
        refine opL 3 3 (v := .bool true) (w' := (wx.setRow w.heap.size #[.int .i64 0, .int .i64 i])) (by kernel_rfl) (frZ hs) ?_ ?_
        · exact frY rfl (k_assign rfl rfl)
        refine frN11 hs hd h0 h2 h10 h11 h12 h4 h5 h6 h7 h22 h24 ?_; clear hs hd h0 h2 h10 h11 h12 h4 h5 h6 h7 h22 h24; intro a hs hd h0 h2 h10 h11 h12 h4 h5 h6 h7 h22 h24 h3
        refine wp_ret ?_
        exact hfin a _ _ _ _ hd h2 qe h3 (by rw [hidx, Rfc.pwd_bare hlt hS he]) (l1.trans (le.mono (Nat.le_refl _)))
      ·
        refine wp_seq ?_
        refine wp_region (show wpOps _ _ _ [0] _ _ from ?_)
        refine opL 0 12 (v := .bool true) (w' := wx) (by kernel_rfl) (frZ hs) ?_ ?_
        · exact frY rfl (o_ltI rfl (ev_tmp h11) rfl (decide_eq_true (by omega)))
        refine frN4 hs hd h0 h2 h10 h11 ?_; clear hs hd h0 h2 h10 h11; intro a hs hd h0 h2 h10 h11 h12
        refine wp_seq ?_
        refine wp_cond_true (ev_tmp h12) ?_
        refine wp_skip ?_
        refine wp_seq ?_
        refine wp_block ?_
        refine wp_seq ?_
        refine wp_region (show wpOps _ _ _ [0, 1, 2, 3] _ _ from ?_)
        refine opL 0 13 (v := .int .i64 i) (w' := wx) (by kernel_rfl) (frZ hs) ?_ ?_
        · exact frY rfl (k_move rfl (ev_tmp h11))
        revert hs hd h0 h2 h10 h11 h12; refine frM5 ?_; intro a hs hd h0 h2 h10 h11 h12 h13
        refine opL 1 14 (v := .string ⟨(Rfc.wd i).toArray⟩) (w' := wx) (by kernel_rfl) (frZ hs) ?_ ?_
        · exact frY rfl (k_idxWD rfl (ev_tmp h10) (ev_tmp h11) hlt)
        revert hs hd h0 h2 h10 h11 h12 h13; refine frM6 ?_; intro a hs hd h0 h2 h10 h11 h12 h13 h14
        refine opL 2 4 (v := .int .i64 i) (w' := wx) (by kernel_rfl) (frZ hs) ?_ ?_
        · exact frY rfl (k_assign rfl (ev_tmp h13))
        clear h13; revert hs hd h0 h2 h10 h11 h12 h14; refine frM6 ?_; intro a hs hd h0 h2 h10 h11 h12 h14 h4
        refine opL 3 5 (v := .string ⟨(Rfc.wd i).toArray⟩) (w' := wx) (by kernel_rfl) (frZ hs) ?_ ?_
        · exact frY rfl (k_assign rfl (ev_tmp h14))
        clear h14; revert hs hd h0 h2 h10 h11 h12 h4; refine frM6 ?_; intro a hs hd h0 h2 h10 h11 h12 h4 h5
        refine wp_seq ?_
        refine wp_region (show wpOps _ _ _ [0, 1, 2, 3, 4, 5, 6, 7] _ _ from ?_)
        refine opL 0 16 (v := .string ⟨s.toArray⟩) (w' := wx) (by kernel_rfl) (frZ hs) ?_ ?_
        · exact frY rfl (k_move rfl (ev_tmp h0))
        revert hs hd h0 h2 h10 h11 h12 h4 h5; refine frM7 ?_; intro a hs hd h0 h2 h10 h11 h12 h4 h5 h16
        refine opL 1 17 (v := .string ⟨(Rfc.wd i).toArray⟩) (w' := wx) (by kernel_rfl) (frZ hs) ?_ ?_
        · exact frY rfl (k_move rfl (ev_tmp h5))
        revert hs hd h0 h2 h10 h11 h12 h4 h5 h16; refine frM8 ?_; intro a hs hd h0 h2 h10 h11 h12 h4 h5 h16 h17
        have hc := cutSuf_any s (Rfc.wd i) wx hl
        have hx := fun ops Q rest d a i h1 h2 h3 => opL_call (P := Tryz.prog) (ops := ops) (Q := Q) (a := a) (w := wx) (rest := rest) i d h1 h2 h3 hc
        refine hx _ _ _ 18 _ 2 ?z455a ?z455b ?z455 ?z456
        case z455a => kernel_rfl
        case z455b => (rw [hs]; decide)
        case z455 => exact frY rfl (c_CutSuf rfl rfl (ev_tmp h16) (ev_tmp h17))
        case z456 =>
        rintro _ wx a ⟨rfl, rfl⟩ F0
        rw [hS] at F0
        replace hs := F0.z.trans hs
        replace hd := F0.e.trans hd
        replace h0 := (F0.n 0 (by decide)).trans h0
        replace h2 := (F0.n 2 (by decide)).trans h2
        replace h10 := (F0.n 10 (by decide)).trans h10
        replace h11 := (F0.n 11 (by decide)).trans h11
        replace h12 := (F0.n 12 (by decide)).trans h12
        replace h4 := (F0.n 4 (by decide)).trans h4
        replace h5 := (F0.n 5 (by decide)).trans h5
        clear h16
        clear h17
        have h18 := F0.s
        clear F0
        clear hx hc
        refine opL 3 15 (v := .tuple #[.string ⟨(Lib.trimSuffix s (Rfc.wd i)).toArray⟩, .bool true]) (w' := wx) (by kernel_rfl) (frZ hs) ?_ ?_
        · exact frY rfl (k_move rfl (ev_tmp h18))
        refine frN7 hs hd h0 h2 h10 h11 h12 h4 h5 ?_; clear hs hd h0 h2 h10 h11 h12 h4 h5 h18; intro a hs hd h0 h2 h10 h11 h12 h4 h5 h15
        refine opL 4 19 (v := .string ⟨(Lib.trimSuffix s (Rfc.wd i)).toArray⟩) (w' := wx) (by kernel_rfl) (frZ hs) ?_ ?_
        · exact frY rfl (k_extract rfl (ev_tmp h15) rfl)
        revert hs hd h0 h2 h10 h11 h12 h4 h5 h15; refine frM8 ?_; intro a hs hd h0 h2 h10 h11 h12 h4 h5 h15 h19
        refine opL 5 20 (v := .bool true) (w' := wx) (by kernel_rfl) (frZ hs) ?_ ?_
        · exact frY rfl (k_extract rfl (ev_tmp h15) rfl)
        clear h15; revert hs hd h0 h2 h10 h11 h12 h4 h5 h19; refine frM8 ?_; intro a hs hd h0 h2 h10 h11 h12 h4 h5 h19 h20
        refine opL 6 6 (v := .string ⟨(Lib.trimSuffix s (Rfc.wd i)).toArray⟩) (w' := wx) (by kernel_rfl) (frZ hs) ?_ ?_
        · exact frY rfl (k_assign rfl (ev_tmp h19))
        clear h19; revert hs hd h0 h2 h10 h11 h12 h4 h5 h20; refine frM8 ?_; intro a hs hd h0 h2 h10 h11 h12 h4 h5 h20 h6
        refine opL 7 7 (v := .bool true) (w' := wx) (by kernel_rfl) (frZ hs) ?_ ?_
        · exact frY rfl (k_assign rfl (ev_tmp h20))
        clear h20; revert hs hd h0 h2 h10 h11 h12 h4 h5 h6; refine frM8 ?_; intro a hs hd h0 h2 h10 h11 h12 h4 h5 h6 h7
        refine wp_seq ?_
        refine wp_seq ?_
        refine wp_region (show wpOps _ _ _ [0, 1] _ _ from ?_)
        refine opL 0 21 (v := .bool true) (w' := wx) (by kernel_rfl) (frZ hs) ?_ ?_
        · exact frY rfl (k_move rfl (ev_tmp h7))
        revert hs hd h0 h2 h10 h11 h12 h4 h5 h6 h7; refine frM9 ?_; intro a hs hd h0 h2 h10 h11 h12 h4 h5 h6 h7 h21
        refine opL 1 22 (v := .bool false) (w' := wx) (by kernel_rfl) (frZ hs) ?_ ?_
        · exact frY rfl (o_not rfl (ev_tmp h21) rfl)
        clear h21; revert hs hd h0 h2 h10 h11 h12 h4 h5 h6 h7; refine frM9 ?_; intro a hs hd h0 h2 h10 h11 h12 h4 h5 h6 h7 h22
        refine wp_cond_false (ev_tmp h22) ?_
        refine wp_skip ?_
        refine wp_seq ?_
        refine wp_seq ?_
        refine wp_region (show wpOps _ _ _ [0, 1] _ _ from ?_)
        refine opL 0 23 (v := .string ⟨(Lib.trimSuffix s (Rfc.wd i)).toArray⟩) (w' := wx) (by kernel_rfl) (frZ hs) ?_ ?_
        · exact frY rfl (k_move rfl (ev_tmp h6))
        revert hs hd h0 h2 h10 h11 h12 h4 h5 h6 h7 h22; refine frM10 ?_; intro a hs hd h0 h2 h10 h11 h12 h4 h5 h6 h7 h22 h23
        refine opL 1 24 (v := .bool false) (w' := wx) (by kernel_rfl) (frZ hs) ?_ ?_
        · exact frY rfl (o_eqStr rfl (ev_tmp h23) rfl (by rw [ba_list, show (⟨#[]⟩ : ByteArray).toList = [] from ba_list []]; simp [he]))
        clear h23; revert hs hd h0 h2 h10 h11 h12 h4 h5 h6 h7 h22; refine frM10 ?_; intro a hs hd h0 h2 h10 h11 h12 h4 h5 h6 h7 h22 h24
        refine wp_cond_false (ev_tmp h24) ?_
        refine wp_skip ?_
        refine wp_seq ?_
        refine wp_region (show wpOps _ _ _ [0, 1, 2, 3, 4, 5, 6] _ _ from ?_)
        refine opL 0 28 (v := .string ⟨(Lib.trimSuffix s (Rfc.wd i)).toArray⟩) (w' := wx) (by kernel_rfl) (frZ hs) ?_ ?_
        · exact frY rfl (k_move rfl (ev_tmp h6))
        revert hs hd h0 h2 h10 h11 h12 h4 h5 h6 h7 h22 h24; refine frM11 ?_; intro a hs hd h0 h2 h10 h11 h12 h4 h5 h6 h7 h22 h24 h28
        have hc := pz_any (Lib.trimSuffix s (Rfc.wd i)) wx hT1 (Nat.le_trans (trim_le _ _) hl)
        have hx := fun ops Q rest d a i h1 h2 h3 => opL_call (P := Tryz.prog) (ops := ops) (Q := Q) (a := a) (w := wx) (rest := rest) i d h1 h2 h3 hc
        refine hx _ _ _ 29 _ 1 ?z477a ?z477b ?z477 ?z478
        case z477a => kernel_rfl
        case z477b => (rw [hs]; decide)
        case z477 => exact frY rfl (c_pNz rfl rfl (ev_tmp h28))
        case z478 =>
        rintro _ w2 a ⟨rfl, l2⟩ F0
        replace hs := F0.z.trans hs
        replace hd := F0.e.trans hd
        replace h0 := (F0.n 0 (by decide)).trans h0
        replace h2 := (F0.n 2 (by decide)).trans h2
        replace h10 := (F0.n 10 (by decide)).trans h10
        replace h11 := (F0.n 11 (by decide)).trans h11
        replace h12 := (F0.n 12 (by decide)).trans h12
        replace h4 := (F0.n 4 (by decide)).trans h4
        replace h5 := (F0.n 5 (by decide)).trans h5
        replace h6 := (F0.n 6 (by decide)).trans h6
        replace h7 := (F0.n 7 (by decide)).trans h7
        replace h22 := (F0.n 22 (by decide)).trans h22
        replace h24 := (F0.n 24 (by decide)).trans h24
        clear h28
        have h29 := F0.s
        clear F0
        clear hx hc
        have q2 := q1.below l2 q1.lt
        refine opL 2 27 (v := .tuple #[.int .i64 ((Rfc.pnz (Lib.trimSuffix s (Rfc.wd i))).getD 0), .bool (Rfc.pnz (Lib.trimSuffix s (Rfc.wd i))).isSome]) (w' := w2) (by kernel_rfl) (frZ hs) ?_ ?_
        · exact frY rfl (k_move rfl (ev_tmp h29))
        refine frN11 hs hd h0 h2 h10 h11 h12 h4 h5 h6 h7 h22 h24 ?_; clear hs hd h0 h2 h10 h11 h12 h4 h5 h6 h7 h22 h24 h29; intro a hs hd h0 h2 h10 h11 h12 h4 h5 h6 h7 h22 h24 h27
        refine opL 3 30 (v := .int .i64 ((Rfc.pnz (Lib.trimSuffix s (Rfc.wd i))).getD 0)) (w' := w2) (by kernel_rfl) (frZ hs) ?_ ?_
        · exact frY rfl (k_extract rfl (ev_tmp h27) rfl)
        revert hs hd h0 h2 h10 h11 h12 h4 h5 h6 h7 h22 h24 h27; refine frM12 ?_; intro a hs hd h0 h2 h10 h11 h12 h4 h5 h6 h7 h22 h24 h27 h30
        refine opL 4 31 (v := .bool (Rfc.pnz (Lib.trimSuffix s (Rfc.wd i))).isSome) (w' := w2) (by kernel_rfl) (frZ hs) ?_ ?_
        · exact frY rfl (k_extract rfl (ev_tmp h27) rfl)
        clear h27; revert hs hd h0 h2 h10 h11 h12 h4 h5 h6 h7 h22 h24 h30; refine frM12 ?_; intro a hs hd h0 h2 h10 h11 h12 h4 h5 h6 h7 h22 h24 h30 h31
        refine opL 5 8 (v := .int .i64 ((Rfc.pnz (Lib.trimSuffix s (Rfc.wd i))).getD 0)) (w' := w2) (by kernel_rfl) (frZ hs) ?_ ?_
        · exact frY rfl (k_assign rfl (ev_tmp h30))
        clear h30; revert hs hd h0 h2 h10 h11 h12 h4 h5 h6 h7 h22 h24 h31; refine frM12 ?_; intro a hs hd h0 h2 h10 h11 h12 h4 h5 h6 h7 h22 h24 h31 h8
        refine opL 6 9 (v := .bool (Rfc.pnz (Lib.trimSuffix s (Rfc.wd i))).isSome) (w' := w2) (by kernel_rfl) (frZ hs) ?_ ?_
        · exact frY rfl (k_assign rfl (ev_tmp h31))
        clear h31; revert hs hd h0 h2 h10 h11 h12 h4 h5 h6 h7 h22 h24 h8; refine frM12 ?_; intro a hs hd h0 h2 h10 h11 h12 h4 h5 h6 h7 h22 h24 h8 h9
        refine wp_seq ?_
        refine wp_region (show wpOps _ _ _ [0, 1, 2, 3, 4, 5] _ _ from ?_)
        refine opL 0 32 (v := .int .i64 ((Rfc.pnz (Lib.trimSuffix s (Rfc.wd i))).getD 0)) (w' := w2) (by kernel_rfl) (frZ hs) ?_ ?_
        · exact frY rfl (k_move rfl (ev_tmp h8))
        revert hs hd h0 h2 h10 h11 h12 h4 h5 h6 h7 h22 h24 h8 h9; refine frM13 ?_; intro a hs hd h0 h2 h10 h11 h12 h4 h5 h6 h7 h22 h24 h8 h9 h32
        refine opL 1 33 (v := .int .i64 i) (w' := w2) (by kernel_rfl) (frZ hs) ?_ ?_
        · exact frY rfl (k_move rfl (ev_tmp h4))
        revert hs hd h0 h2 h10 h11 h12 h4 h5 h6 h7 h22 h24 h8 h9 h32; refine frM14 ?_; intro a hs hd h0 h2 h10 h11 h12 h4 h5 h6 h7 h22 h24 h8 h9 h32 h33
        refine opL 2 34 (v := .agg #[.int .i64 ((Rfc.pnz (Lib.trimSuffix s (Rfc.wd i))).getD 0), .int .i64 i]) (w' := w2) (by kernel_rfl) (frZ hs) ?_ ?_
        · exact frY rfl (k_buildN rfl (ev_tmp h32) (ev_tmp h33))
        clear h32 h33; revert hs hd h0 h2 h10 h11 h12 h4 h5 h6 h7 h22 h24 h8 h9; refine frM13 ?_; intro a hs hd h0 h2 h10 h11 h12 h4 h5 h6 h7 h22 h24 h8 h9 h34
        refine opL 3 35 (v := .bool (Rfc.pnz (Lib.trimSuffix s (Rfc.wd i))).isSome) (w' := w2) (by kernel_rfl) (frZ hs) ?_ ?_
        · exact frY rfl (k_move rfl (ev_tmp h9))
        revert hs hd h0 h2 h10 h11 h12 h4 h5 h6 h7 h22 h24 h8 h9 h34; refine frM14 ?_; intro a hs hd h0 h2 h10 h11 h12 h4 h5 h6 h7 h22 h24 h8 h9 h34 h35
        refine opL_store 4 (w' := (w2.setRow w.heap.size #[.int .i64 ((Rfc.pnz (Lib.trimSuffix s (Rfc.wd i))).getD 0), .int .i64 i])) (by kernel_rfl) ?_ ?_
        · exact frY rfl (k_storeS2 rfl (ev_tmp h2) (ev_tmp h34) q2 (by kernel_rfl) rfl rfl (by simp [Value.oneCell']))
        clear h34
        have qe := q2.setRow (cs := #[.int .i64 ((Rfc.pnz (Lib.trimSuffix s (Rfc.wd i))).getD 0), .int .i64 i])
        have le := (exc_setRow w2 w.heap.size #[.int .i64 ((Rfc.pnz (Lib.trimSuffix s (Rfc.wd i))).getD 0), .int .i64 i] w.heap.size).below (Nat.le_refl _)
        refine opL 5 3 (v := .bool (Rfc.pnz (Lib.trimSuffix s (Rfc.wd i))).isSome) (w' := (w2.setRow w.heap.size #[.int .i64 ((Rfc.pnz (Lib.trimSuffix s (Rfc.wd i))).getD 0), .int .i64 i])) (by kernel_rfl) (frZ hs) ?_ ?_
        · exact frY rfl (k_assign rfl (ev_tmp h35))
        refine frN13 hs hd h0 h2 h10 h11 h12 h4 h5 h6 h7 h22 h24 h8 h9 ?_; clear hs hd h0 h2 h10 h11 h12 h4 h5 h6 h7 h22 h24 h8 h9 h35; intro a hs hd h0 h2 h10 h11 h12 h4 h5 h6 h7 h22 h24 h8 h9 h3
        refine wp_ret ?_
        exact hfin a _ _ _ _ hd h2 qe h3 (by rw [hidx, Rfc.pwd_num hlt hS he]) ((l1.trans (l2.mono l1.size)).trans (le.mono (Nat.le_refl _)))
  obtain rfl : i = 7 := by omega
  clear h10
  refine wp_seq ?_
  refine wp_region (show wpOps _ _ _ [0] _ _ from ?_)
  refine opL 0 12 (v := .bool false) (w' := wx) (by kernel_rfl) (frZ hs) ?_ ?_
  · exact frY rfl (o_ltI rfl (ev_tmp h11) rfl (decide_eq_false (by decide)))
  refine frN3 hs hd h0 h2 h11 ?_; clear hs hd h0 h2 h11; intro a hs hd h0 h2 h11 h12
  refine wp_seq ?_
  refine wp_cond_false (ev_tmp h12) ?_
  refine wp_exit ?_
  change Code.wp _ _ _ _ _
  refine wp_seq ?_
  refine wp_region (show wpOps _ _ _ [0, 1, 2] _ _ from ?_)
  refine opL 0 37 (v := .agg #[.int .i64 0, .int .i64 0]) (w' := wx) (by kernel_rfl) (frZ hs) ?_ ?_
  · exact frY rfl (k_buildN0 rfl)
  refine frN4 hs hd h0 h2 h11 h12 ?_; clear hs hd h0 h2 h11 h12; intro a hs hd h0 h2 h11 h12 h37
  refine opL_store 1 (w' := (wx.setRow w.heap.size #[.int .i64 0, .int .i64 0])) (by kernel_rfl) ?_ ?_
  · exact frY rfl (k_storeS2 rfl (ev_tmp h2) (ev_tmp h37) q1 (by kernel_rfl) rfl rfl (by simp [Value.oneCell']))
  clear h37
  have qe := q1.setRow (cs := #[.int .i64 0, .int .i64 0])
  have le := (exc_setRow wx w.heap.size #[.int .i64 0, .int .i64 0] w.heap.size).below (Nat.le_refl _)
  refine opL 2 3 (v := .bool false) (w' := (wx.setRow w.heap.size #[.int .i64 0, .int .i64 0])) (by kernel_rfl) (frZ hs) ?_ ?_
  · exact frY rfl (k_assign rfl rfl)
  refine frN4 hs hd h0 h2 h11 h12 ?_; clear hs hd h0 h2 h11 h12; intro a hs hd h0 h2 h11 h12 h3
  refine wp_ret ?_
  exact hfin a _ _ _ _ hd h2 qe h3 (by rw [hidx]; rfl) (l1.trans (le.mono (Nat.le_refl _)))
end Go.Proofs.YtocpmljkmdpfkaaGreatDoor
