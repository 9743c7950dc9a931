/-
  Texts read: weekdays, lists.
-/
import Derived.Test.YtjdjekpbjnkliaaGreatDoorRf2
import Derived.Test.YtjdjekpbjnkliaaGreatDoorRg1
import Derived.Test.YtjdjekpbjnkliaaGreatDoorRf0
import Derived.Test.YtjdjekpbjnkliaaGreatDoorShelf
import Derived.Sort.OwnSortedInts
import Derived.Laws.StructEq
import Derived.Test.YtjdjekpbjnkliaaGreatDoorWn
import Derived.Lib.SlicesCompact
namespace Go.Proofs.YtjdjekpbjnkliaaGreatDoor
open Go.RowKit
namespace Rfc
def pwdF (s : List UInt8) : Nat → Nat → (Int × Int) × Bool
  | _, 0 => ((0, 0), false)
  | i, k + 1 => if Lib.hasSuffix s (wd i) = true then (if Lib.trimSuffix s (wd i) = [] then ((0, (i : Int)), true) else (((pnz (Lib.trimSuffix s (wd i))).getD 0, (i : Int)), (pnz (Lib.trimSuffix s (wd i))).isSome)) else pwdF s (i + 1) k
def pwd (s : List UInt8) : (Int × Int) × Bool := pwdF s 0 7
theorem pwd_bare {s : List UInt8} {i : Nat} (hi : i < 7) (h : Lib.hasSuffix s (wd i) = true) (he : Lib.trimSuffix s (wd i) = []) : pwdF s i (7 - i) = ((0, (i : Int)), true) := by
  rw [show 7 - i = (7 - (i + 1)) + 1 by omega, pwdF, if_pos h, if_pos he]
theorem pwd_num {s : List UInt8} {i : Nat} (hi : i < 7) (h : Lib.hasSuffix s (wd i) = true) (he : ¬ Lib.trimSuffix s (wd i) = []) : pwdF s i (7 - i) = (((pnz (Lib.trimSuffix s (wd i))).getD 0, (i : Int)), (pnz (Lib.trimSuffix s (wd i))).isSome) := by
  rw [show 7 - i = (7 - (i + 1)) + 1 by omega, pwdF, if_pos h, if_neg he]
theorem pwd_next {s : List UInt8} {i : Nat} (hi : i < 7) (h : Lib.hasSuffix s (wd i) = false) : pwdF s i (7 - i) = pwdF s (i + 1) (7 - (i + 1)) := by
  rw [show 7 - i = (7 - (i + 1)) + 1 by omega, pwdF, if_neg (by rw [h]; decide)]
def spl (s : List UInt8) (c : UInt8) : List (List UInt8) := Lib.splitK [c] 0 (Lib.count s [c]) s
def mm {α : Type} (g : List UInt8 → Option α) : List (List UInt8) → Option (List α)
  | [] => some []
  | x :: r => match g x with
    | none => none
    | some y => (mm g r).map (y :: ·)
theorem mm_snoc {α : Type} (g : List UInt8 → Option α) : ∀ (l : List (List UInt8)) (x : List UInt8) (L : List α) (y : α), mm g l = some L → g x = some y → mm g (l ++ [x]) = some (L ++ [y])
  | [], x, L, y, h, hx => by
    obtain rfl := Option.some.inj h
    simp [mm, hx]
  | z :: l, x, L, y, h, hx => by
    unfold mm at h
    show mm g (z :: (l ++ [x])) = _
    unfold mm
    cases hz : g z with
    | none => rw [hz] at h; cases h
    | some v =>
      rw [hz] at h
      obtain ⟨L', h1, rfl⟩ := Option.map_eq_some_iff.1 h
      simp [mm_snoc g l x L' y h1 hx]
theorem mm_fail {α : Type} (g : List UInt8 → Option α) : ∀ (l : List (List UInt8)) (i : Nat) (hi : i < l.length), g l[i] = none → mm g l = none
  | [], i, hi, _ => absurd hi (Nat.not_lt_zero i)
  | z :: l, 0, _, h => by
    have h' : g z = none := h
    simp [mm, h']
  | z :: l, i + 1, hi, h => by
    have := mm_fail g l i (by simpa using hi) (by simpa using h)
    unfold mm
    cases g z with
    | none => rfl
    | some v => simp [this]
def pw (s : List UInt8) : Option (Int × Int) := if (pwd s).2 then some (pwd s).1 else none
def plistI (s : List UInt8) : Option (List Int) := mm pnum (spl s 44)
def plistN (s : List UInt8) : Option (List (Int × Int)) := mm pw (spl s 44)
end Rfc
theorem spl_len (s : List UInt8) (c : UInt8) : (Rfc.spl s c).length = Lib.countB ⟨s.toArray⟩ ⟨#[c]⟩ + 1 := by
  have h1 := Lib.splitB_data ⟨#[c]⟩ 0 (Lib.countB ⟨s.toArray⟩ ⟨#[c]⟩) ⟨s.toArray⟩
  have h2 := Lib.splitB_all ⟨#[c]⟩ (Nat.le_refl 1) 0 _ ⟨s.toArray⟩ rfl
  have h3 := congrArg List.length h1
  rw [List.length_map, h2] at h3
  rw [h3]
  rfl
theorem split_any (s : List UInt8) (c : UInt8) (w : World) (hT : Tabs w) (hl : s.length ≤ 100000) : Calls Tryz.prog 10 #[.string ⟨s.toArray⟩, .string ⟨#[c]⟩] w fun e w' => ∃ v, e = .returned v ∧ (v = .slice (some ⟨w.heap.size, 0, none⟩) (Rfc.spl s c).length (Rfc.spl s c).length ∧ Blk w' w.heap.size 9 ((Rfc.spl s c).map fun x => Value.string ⟨x.toArray⟩).toArray) ∧ Below w.heap.size w w' := by
  obtain ⟨m, hm⟩ := hT.max
  refine (Tryz.strings_Split ⟨s.toArray⟩ ⟨#[c]⟩ m w (by rw [ba_size]; omega) hm (Nat.le_refl 1)).mono ?_
  rintro e w' ⟨rfl, rfl⟩
  have h1 := Lib.splitB_data ⟨#[c]⟩ 0 (Lib.countB ⟨s.toArray⟩ ⟨#[c]⟩) ⟨s.toArray⟩
  have h2 : Rfc.spl s c = (Lib.splitB ⟨#[c]⟩ 0 (Lib.countB ⟨s.toArray⟩ ⟨#[c]⟩) ⟨s.toArray⟩).map (·.data.toList) := by
    rw [h1]
    rfl
  refine ⟨_, rfl, ⟨by rw [spl_len], ?_⟩, (Below.refl _ _).alloc (Nat.le_refl _) _⟩
  have e2 : (Rfc.spl s c).map (fun x => Value.string ⟨x.toArray⟩) = (Lib.splitB ⟨#[c]⟩ 0 (Lib.countB ⟨s.toArray⟩ ⟨#[c]⟩) ⟨s.toArray⟩).map Value.string := by
    rw [h2, List.map_map]
    exact List.map_congr_left (fun x _ => by simp)
  rw [e2]
  exact Blk.alloc _ _ _
theorem piece_le : ∀ (k : Nat) (s : List UInt8) (c : UInt8), ∀ x ∈ Lib.splitK [c] 0 k s, x.length ≤ s.length
  | 0, s, c, x, hx => by
    unfold Lib.splitK at hx
    simp at hx
    rw [hx]
    exact Nat.le_refl _
  | k + 1, s, c, x, hx => by
    unfold Lib.splitK at hx
    split at hx
    · simp at hx
      rw [hx]
      exact Nat.le_refl _
    · rcases List.mem_cons.1 hx with rfl | hx
      · simp
        omega
      · have := piece_le k _ c x hx
        rw [List.length_drop] at this
        omega
theorem cutSuf_any (s p : List UInt8) (w : World) (hl : s.length ≤ 100000) : Calls Tryz.prog 84 #[.string ⟨s.toArray⟩, .string ⟨p.toArray⟩] w fun e w' => ∃ v, e = .returned v ∧ v = .tuple #[.string ⟨(Lib.trimSuffix s p).toArray⟩, .bool (Lib.hasSuffix s p)] ∧ w = w' :=
  (Tryz.strings_CutSuffix ⟨s.toArray⟩ ⟨p.toArray⟩ w (by rw [ba_size]; omega)).mono fun e w' ⟨he, hw⟩ => ⟨_, he, by rw [ba_data, ba_data], hw.symm⟩
theorem trim_le (s p : List UInt8) : (Lib.trimSuffix s p).length ≤ s.length := by
  unfold Lib.trimSuffix
  split
  · simp
  · exact Nat.le_refl _
theorem append_int_b {w : World} {base : Nat} {v : Value} {L : List Int} {x : Int} {g c : Nat} (h : OwnI w base v L) (hx : w.cell? ⟨g, 0, none⟩ = some (.int .i64 x)) (hl : L.length ≤ 1000000) (hB : base ≤ w.heap.size) :
    ∃ v' w', (Builtin.append_ #[25, 25] 25 #[v, .slice (some ⟨g, 0, none⟩) 1 c]).run Tryz.prog w = .ok v' w' ∧ OwnI w' base v' (L ++ [x]) ∧ Below base w w' ∧ w.heap.size ≤ w'.heap.size := by
  obtain ⟨i, hi, hz, hs, hb⟩ := info_of (T := 3) (z := .int .i64 0) (n := 1) (b := 8) (by kernel_rfl) (by kernel_rfl) (by kernel_rfl)
  obtain ⟨v', w', hr, ho, hg, -⟩ := run_append_own (P := Tryz.prog) w base 25 25 3 i (.int .i64 0) 1 8 Tryz.underlying25 hi hz hs hb rfl (by decide) v L.length _ h ⟨g, 0, none⟩ 1 c [.int .i64 x] rfl
    (fun j u hu => by
      cases j with
      | zero => obtain rfl : Value.int .i64 x = u := by simpa using hu
                exact hx
      | succ j => simp at hu) (by simp [Value.oneCell']) (by unfold maxLen; omega) (by omega) hB
  refine ⟨v', w', hr, ?_, (exc_grown (b := base) hg (fun g' hg' => (World.ownsRow.lt h g' hg').1) hB).below (Nat.le_refl _), hg.size⟩
  unfold OwnI
  simpa using ho
theorem append_nth_b {w : World} {base : Nat} {v : Value} {L : List (Int × Int)} {x y : Int} {g c : Nat} (h : OwnN w base v L) (hx : w.cell? ⟨g, 0, none⟩ = some (.int .i64 x)) (hy : w.cell? ⟨g, 1, none⟩ = some (.int .i64 y)) (hl : L.length ≤ 1000000) (hB : base ≤ w.heap.size) :
    ∃ v' w', (Builtin.append_ #[26, 26] 26 #[v, .slice (some ⟨g, 0, none⟩) 1 c]).run Tryz.prog w = .ok v' w' ∧ OwnN w' base v' (L ++ [(x, y)]) ∧ Below base w w' ∧ w.heap.size ≤ w'.heap.size := by
  obtain ⟨i, hi, hz, hs, hb⟩ := info_of (T := 50) (z := .agg #[.int .i64 0, .int .i64 0]) (n := 2) (b := 16) (by kernel_rfl) (by kernel_rfl) (by kernel_rfl)
  obtain ⟨v', w', hr, ho, hg, -⟩ := run_append_own (P := Tryz.prog) w base 26 26 50 i (.agg #[.int .i64 0, .int .i64 0]) 2 16 Tryz.underlying26 hi hz hs hb rfl (by decide) v L.length _ h ⟨g, 0, none⟩ 1 c [.int .i64 x, .int .i64 y] rfl
    (fun j u hu => by
      match j with
      | 0 => obtain rfl : Value.int .i64 x = u := by simpa using hu
             exact hx
      | 1 => obtain rfl : Value.int .i64 y = u := by simpa using hu
             exact hy
      | j + 2 => simp at hu) (by simp [Value.oneCell']) (by unfold maxLen; omega) (by omega) hB
  refine ⟨v', w', hr, ?_, (exc_grown (b := base) hg (fun g' hg' => (World.ownsRow.lt h g' hg').1) hB).below (Nat.le_refl _), hg.size⟩
  unfold OwnN
  simpa using ho
section
variable {w : World} {ρ : Operand → Value} {o : Oper} {x y : Operand} {v u : Value} {n : Int} {i : Nat} {k c b : Nat}
theorem c_Split (ho : o.op = .call ⟨.value (.func 10), #[x, y], #[9, 9]⟩) (hf : ρ (.func 10) = .func (.func 10) #[] #[]) (hx : ρ x = v) (hy : ρ y = u) : (execOp ρ o).run Tryz.prog w = .ok (.enter 10 #[v, u]) w := by
  simp only [execOp, ho]
  go_simp
theorem c_CutSuf (ho : o.op = .call ⟨.value (.func 84), #[x, y], #[9, 9]⟩) (hf : ρ (.func 84) = .func (.func 84) #[] #[]) (hx : ρ x = v) (hy : ρ y = u) : (execOp ρ o).run Tryz.prog w = .ok (.enter 84 #[v, u]) w := by
  simp only [execOp, ho]
  go_simp
theorem c_pNz (ho : o.op = .call ⟨.value (.func 46), #[x], #[9]⟩) (hf : ρ (.func 46) = .func (.func 46) #[] #[]) (hx : ρ x = v) : (execOp ρ o).run Tryz.prog w = .ok (.enter 46 #[v]) w := by
  simp only [execOp, ho]
  go_simp
theorem c_valNum (ho : o.op = .call ⟨.value x, #[y], #[9]⟩) (hf : ρ x = .func (.func 45) #[] #[]) (hy : ρ y = u) : (execOp ρ o).run Tryz.prog w = .ok (.enter 45 #[u]) w := by
  simp only [execOp, ho]
  go_simp
theorem c_valWd (ho : o.op = .call ⟨.value x, #[y], #[9]⟩) (hf : ρ x = .func (.func 50) #[] #[]) (hy : ρ y = u) : (execOp ρ o).run Tryz.prog w = .ok (.enter 50 #[u]) w := by
  simp only [execOp, ho]
  go_simp
theorem k_buildN1 (ho : o.op = .build 50 #[(1, x)]) (hx : ρ x = .int .i64 n) : (execOp ρ o).run Tryz.prog w = .ok (.value (.agg #[.int .i64 0, .int .i64 n])) w := by
  simp only [execOp, ho]
  go_simp
theorem k_buildN0 (ho : o.op = .build 50 #[]) : (execOp ρ o).run Tryz.prog w = .ok (.value (.agg #[.int .i64 0, .int .i64 0])) w := by
  simp only [execOp, ho]
  go_simp
theorem k_lenStr (ho : o.op = .call ⟨.builtin .len, #[x], #[42]⟩) (hx : ρ x = .slice (some ⟨b, 0, none⟩) k c) : (execOp ρ o).run Tryz.prog w = .ok (.value (.int .i64 k)) w := by
  simp only [execOp, ho]
  go_simp
end

theorem results_day {tmps : Array Value} {w : World} {b : Nat} {x y : Int} {r : Value} (hd : tmps.getD 2 undef = .pointer (some ⟨b, 0, none⟩)) (h : Blk w b 50 #[.int .i64 x, .int .i64 y]) (h3 : tmps.getD 3 undef = r) :
    (results Tryz.f50 tmps).run Tryz.prog w = .ok (.tuple #[.agg #[.int .i64 x, .int .i64 y], r]) w := by
  have c0 := h.cell 0
  have c1 := h.cell 1
  have hr : tmps[2]?.getD undef = .pointer (some ⟨b, 0, none⟩) := by simpa using hd
  have hr3 : tmps[3]?.getD undef = r := by simpa using h3
  have hl : (loadVar 50 ⟨b, 0, none⟩).run Tryz.prog w = .ok (.agg #[.int .i64 x, .int .i64 y]) w := by go_simp
  simp [results, hr, hr3, asAddr, hl]
noncomputable def pwBody : Code := Tryz.f50.body.getD .skip
set_option maxRecDepth 100000 in
set_option maxHeartbeats 1000000 in
theorem pw_any (s : List UInt8) (w : World) (hT : Tabs w) (hl : s.length ≤ 100000) :
    Calls Tryz.prog 50 #[.string ⟨s.toArray⟩] w fun e w' => ∃ v, e = .returned v ∧ v = .tuple #[.agg #[.int .i64 (Rfc.pwd s).1.1, .int .i64 (Rfc.pwd s).1.2], .bool (Rfc.pwd s).2] ∧ Below w.heap.size w w' := by
  refine calls_of_wp Tryz.func50 (show Tryz.f50.body = some pwBody from rfl) ?_
  generalize hAA : (Act.mk (#[.string ⟨s.toArray⟩] ++ Array.replicate (Tryz.f50.ntmps - (#[.string ⟨s.toArray⟩] : Array Value).size) undef) []) = a
  have hs : a.tmps.size = 38 := by rw [← hAA]; simp [Tryz.ntmps50]
  have hd : a.defers = [] := by rw [← hAA]
  have h0 : a.tmps.getD 0 undef = .string ⟨s.toArray⟩ := by rw [← hAA]; simp
  clear hAA
  have kk := (kn hs hd).p h0; clear hs hd h0
  have hfin : ∀ (a' : Act) (w' : World) (x y : Int) (r : Bool), a'.defers = [] → a'.tmps.getD 2 undef = .pointer (some ⟨w.heap.size, 0, none⟩) → Blk w' w.heap.size 50 #[.int .i64 x, .int .i64 y] → a'.tmps.getD 3 undef = .bool r → Rfc.pwd s = ((x, y), r) → Below w.heap.size w w' → (bodyPost Tryz.prog Tryz.f50 fun e w' => ∃ v, e = .returned v ∧ v = .tuple #[.agg #[.int .i64 (Rfc.pwd s).1.1, .int .i64 (Rfc.pwd s).1.2], .bool (Rfc.pwd s).2] ∧ Below w.heap.size w w') .ret a' w' := by
    intro a' w' x y r k1 k2 k3 k4 k5 k6
    exact ⟨k1, _, results_day k2 k3 k4, _, rfl, by rw [k5], k6⟩
  generalize (bodyPost Tryz.prog Tryz.f50 fun e w' => ∃ v, e = .returned v ∧ v = .tuple #[.agg #[.int .i64 (Rfc.pwd s).1.1, .int .i64 (Rfc.pwd s).1.2], .bool (Rfc.pwd s).2] ∧ Below w.heap.size w w') = Q at hfin
  unfold pwBody
  conv => arg 2; whnf
  refine wp_seq ?_
  refine wpr 2 ?_
  refine opk 0 2 (v := .pointer (some ⟨w.heap.size, 0, none⟩)) (w' := (w.alloc (.cells #[.int .i64 0, .int .i64 0] 50))) kk (frY rfl (k_allocN rfl)) ?_; clear kk; intro a kk
  obtain ⟨w1, hw1⟩ : ∃ wn, wn = w.alloc (.cells #[.int .i64 0, .int .i64 0] 50) := ⟨_, rfl⟩
  rw [← hw1]
  have q1 : Blk w1 w.heap.size 50 #[.int .i64 0, .int .i64 0] := by rw [hw1]; exact Blk.alloc _ _ _
  have l1 : Below w.heap.size w w1 := by rw [hw1]; exact (Below.refl _ _).alloc (Nat.le_refl _) _
  clear hw1
  have hT1 := hT.below l1
  refine opk 1 3 (v := .bool false) kk (frY rfl (k_assign rfl rfl)) ?_; clear kk; intro a kk
  refine wp_seq ?_
  refine wp_seq ?_
  refine wpr 2 ?_
  refine opk 0 10 (v := .agg #[.string ⟨(Rfc.wd 0).toArray⟩, .string ⟨(Rfc.wd 1).toArray⟩, .string ⟨(Rfc.wd 2).toArray⟩, .string ⟨(Rfc.wd 3).toArray⟩, .string ⟨(Rfc.wd 4).toArray⟩, .string ⟨(Rfc.wd 5).toArray⟩, .string ⟨(Rfc.wd 6).toArray⟩]) kk (frY rfl (k_loadWD rfl rfl hT1)) ?_; clear kk; intro a kk
  refine opk 1 11 (v := .int .i64 0) kk (frY rfl (k_move rfl rfl)) ?_; clear kk; intro a kk
  refine wp_block ?_
  refine wp_loop (fun a wx => wx = w1 ∧ ∃ i, i ≤ 7 ∧ a.defers = [] ∧ a.tmps.size = 38 ∧ a.tmps.getD 0 undef = .string ⟨s.toArray⟩ ∧ a.tmps.getD 2 undef = .pointer (some ⟨w.heap.size, 0, none⟩) ∧ a.tmps.getD 10 undef = .agg #[.string ⟨(Rfc.wd 0).toArray⟩, .string ⟨(Rfc.wd 1).toArray⟩, .string ⟨(Rfc.wd 2).toArray⟩, .string ⟨(Rfc.wd 3).toArray⟩, .string ⟨(Rfc.wd 4).toArray⟩, .string ⟨(Rfc.wd 5).toArray⟩, .string ⟨(Rfc.wd 6).toArray⟩] ∧ a.tmps.getD 11 undef = .int .i64 (i : Nat) ∧ Rfc.pwd s = Rfc.pwdF s i (7 - i)) (fun a _ => (7 - intOf (a.tmps.getD 11 undef)).toNat) ⟨rfl, 0, Nat.zero_le _, kk.d, kk.z, (kk.g 0 rfl), (kk.g 2 rfl), (kk.g 10 rfl), (kk.g 11 rfl), rfl⟩ ?_
  clear kk a
  rintro a wx ⟨rfl, i, hi, hd, hs, h0, h2, h10, h11, hidx⟩
  have kk := ((((kn hs hd).p h0).p h2).p h10).p h11; clear hs hd h0 h2 h10 h11
  have e11 := (kk.g 11 rfl)
  rw [e11]
  clear e11
  by_cases hlt : i < 7
  · cases hS : Lib.hasSuffix s (Rfc.wd i)
    ·
      refine wp_seq ?_
      refine wpr 1 ?_
      refine opk 0 12 (v := .bool true) kk (frY rfl (o_ltI rfl (kk.e 11 rfl) rfl (decide_eq_true (by omega)))) ?_; clear kk; intro a kk
      refine wp_seq ?_
      refine wp_cond_true (kk.e 12 rfl) ?_
      refine wp_skip ?_
      refine wp_seq ?_
      refine wp_block ?_
      refine wp_seq ?_
      refine wpr 4 ?_
      refine opk 0 13 kk (frY rfl (k_move rfl (kk.e 11 rfl))) ?_; clear kk; intro a kk
      refine opk 1 14 (v := .string ⟨(Rfc.wd i).toArray⟩) kk (frY rfl (k_idxWD rfl (kk.e 10 rfl) (kk.e 11 rfl) hlt)) ?_; clear kk; intro a kk
      refine opk 2 4 kk (frY rfl (k_assign rfl (kk.e 13 rfl))) ?_; clear kk; intro a kk
      refine opk 3 5 kk (frY rfl (k_assign rfl (kk.e 14 rfl))) ?_; clear kk; intro a kk
      refine wp_seq ?_
      refine wpr 8 ?_
      refine opk 0 16 kk (frY rfl (k_move rfl (kk.e 0 rfl))) ?_; clear kk; intro a kk
      refine opk 1 17 kk (frY rfl (k_move rfl (kk.e 5 rfl))) ?_; clear kk; intro a kk
      have hc := cutSuf_any s (Rfc.wd i) wx hl
      refine opkc 2 18 kk hc (frY rfl (c_CutSuf rfl rfl (kk.e 16 rfl) (kk.e 17 rfl))) ?_; clear kk hc
      rintro _ wx a ⟨rfl, rfl⟩ F0
      rw [hS] at F0
      have kk := F0; clear F0
      refine opk 3 15 kk (frY rfl (k_move rfl (kk.e 18 rfl))) ?_; clear kk; intro a kk
      refine opk 4 19 (v := .string ⟨(Lib.trimSuffix s (Rfc.wd i)).toArray⟩) kk (frY rfl (k_extract rfl (kk.e 15 rfl) rfl)) ?_; clear kk; intro a kk
      refine opk 5 20 (v := .bool false) kk (frY rfl (k_extract rfl (kk.e 15 rfl) rfl)) ?_; clear kk; intro a kk
      refine opk 6 6 kk (frY rfl (k_assign rfl (kk.e 19 rfl))) ?_; clear kk; intro a kk
      refine opk 7 7 kk (frY rfl (k_assign rfl (kk.e 20 rfl))) ?_; clear kk; intro a kk
      refine wp_seq ?_
      refine wp_seq ?_
      refine wpr 2 ?_
      refine opk 0 21 kk (frY rfl (k_move rfl (kk.e 7 rfl))) ?_; clear kk; intro a kk
      refine opk 1 22 (v := .bool true) kk (frY rfl (o_not rfl (kk.e 21 rfl) rfl)) ?_; clear kk; intro a kk
      refine wp_cond_true (kk.e 22 rfl) ?_
      refine wp_exit ?_
      change Code.wp _ _ _ _ _
      refine wpr 2 ?_
      refine opk 0 36 (v := .int .i64 (i + 1 : Nat)) kk (frY rfl (o_addI rfl (kk.e 11 rfl) rfl (wrap_small (n := (i : Int) + 1) (by omega) (by omega)))) ?_; clear kk; intro a kk
      replace kk := kk.keep [36, 22, 7, 6, 5, 4, 12, 10, 2, 0] rfl
      refine opk 1 11 kk (frY rfl (k_move rfl (kk.e 36 rfl))) ?_; clear kk; intro a kk
      refine ⟨⟨rfl, i + 1, hlt, kk.d, kk.z, (kk.g 0 rfl), (kk.g 2 rfl), (kk.g 10 rfl), (kk.g 11 rfl), by rw [hidx, Rfc.pwd_next hlt hS]⟩, ?_⟩
      rw [(kk.g 11 rfl)]
      simp only [intOf]
      omega
    · by_cases he : Lib.trimSuffix s (Rfc.wd i) = []
      ·
        refine wp_seq ?_
        refine wpr 1 ?_
        refine opk 0 12 (v := .bool true) kk (frY rfl (o_ltI rfl (kk.e 11 rfl) rfl (decide_eq_true (by omega)))) ?_; clear kk; intro a kk
        refine wp_seq ?_
        refine wp_cond_true (kk.e 12 rfl) ?_
        refine wp_skip ?_
        refine wp_seq ?_
        refine wp_block ?_
        refine wp_seq ?_
        refine wpr 4 ?_
        refine opk 0 13 kk (frY rfl (k_move rfl (kk.e 11 rfl))) ?_; clear kk; intro a kk
        refine opk 1 14 (v := .string ⟨(Rfc.wd i).toArray⟩) kk (frY rfl (k_idxWD rfl (kk.e 10 rfl) (kk.e 11 rfl) hlt)) ?_; clear kk; intro a kk
        refine opk 2 4 kk (frY rfl (k_assign rfl (kk.e 13 rfl))) ?_; clear kk; intro a kk
        refine opk 3 5 kk (frY rfl (k_assign rfl (kk.e 14 rfl))) ?_; clear kk; intro a kk
        refine wp_seq ?_
        refine wpr 8 ?_
        refine opk 0 16 kk (frY rfl (k_move rfl (kk.e 0 rfl))) ?_; clear kk; intro a kk
        refine opk 1 17 kk (frY rfl (k_move rfl (kk.e 5 rfl))) ?_; clear kk; intro a kk
        have hc := cutSuf_any s (Rfc.wd i) wx hl
        refine opkc 2 18 kk hc (frY rfl (c_CutSuf rfl rfl (kk.e 16 rfl) (kk.e 17 rfl))) ?_; clear kk hc
        rintro _ wx a ⟨rfl, rfl⟩ F0
        rw [hS] at F0
        have kk := F0; clear F0
        refine opk 3 15 kk (frY rfl (k_move rfl (kk.e 18 rfl))) ?_; clear kk; intro a kk
        refine opk 4 19 (v := .string ⟨(Lib.trimSuffix s (Rfc.wd i)).toArray⟩) kk (frY rfl (k_extract rfl (kk.e 15 rfl) rfl)) ?_; clear kk; intro a kk
        refine opk 5 20 (v := .bool true) kk (frY rfl (k_extract rfl (kk.e 15 rfl) rfl)) ?_; clear kk; intro a kk
        refine opk 6 6 kk (frY rfl (k_assign rfl (kk.e 19 rfl))) ?_; clear kk; intro a kk
        refine opk 7 7 kk (frY rfl (k_assign rfl (kk.e 20 rfl))) ?_; clear kk; intro a kk
        refine wp_seq ?_
        refine wp_seq ?_
        refine wpr 2 ?_
        refine opk 0 21 kk (frY rfl (k_move rfl (kk.e 7 rfl))) ?_; clear kk; intro a kk
        refine opk 1 22 (v := .bool false) kk (frY rfl (o_not rfl (kk.e 21 rfl) rfl)) ?_; clear kk; intro a kk
        refine wp_cond_false (kk.e 22 rfl) ?_
        refine wp_skip ?_
        refine wp_seq ?_
        refine wp_seq ?_
        refine wpr 2 ?_
        refine opk 0 23 kk (frY rfl (k_move rfl (kk.e 6 rfl))) ?_; clear kk; intro a kk
        refine opk 1 24 (v := .bool true) kk (frY rfl (o_eqStr rfl (kk.e 23 rfl) rfl (by rw [ba_list, show (⟨#[]⟩ : ByteArray).toList = [] from ba_list []]; simp [he]))) ?_; clear kk; intro a kk
        refine wp_cond_true (kk.e 24 rfl) ?_
        refine wp_seq ?_
        refine wpr 4 ?_
        refine opk 0 25 kk (frY rfl (k_move rfl (kk.e 4 rfl))) ?_; clear kk; intro a kk
        refine opk 1 26 (v := .agg #[.int .i64 0, .int .i64 i]) kk (frY rfl (k_buildN1 rfl (kk.e 25 rfl))) ?_; clear kk; intro a kk
        refine opL_store 2 (w' := (wx.setRow w.heap.size #[.int .i64 0, .int .i64 i])) (by kernel_rfl) ?_ ?_
        · exact frY rfl (k_storeS2 rfl (kk.e 2 rfl) (kk.e 26 rfl) q1 (by kernel_rfl) rfl rfl (by simp [Value.oneCell']))
        have qe := q1.setRow (cs := #[.int .i64 0, .int .i64 i])
        have le := (exc_setRow wx w.heap.size #[.int .i64 0, .int .i64 i] w.heap.size).below (Nat.le_refl _)
        refine opk 3 3 (v := .bool true) (w' := (wx.setRow w.heap.size #[.int .i64 0, .int .i64 i])) kk (frY rfl (k_assign rfl rfl)) ?_; clear kk; intro a kk
        refine wp_ret ?_
        exact hfin a _ _ _ _ kk.d (kk.g 2 rfl) qe (kk.g 3 rfl) (by rw [hidx, Rfc.pwd_bare hlt hS he]) (l1.trans (le.mono (Nat.le_refl _)))
      ·
        refine wp_seq ?_
        refine wpr 1 ?_
        refine opk 0 12 (v := .bool true) kk (frY rfl (o_ltI rfl (kk.e 11 rfl) rfl (decide_eq_true (by omega)))) ?_; clear kk; intro a kk
        refine wp_seq ?_
        refine wp_cond_true (kk.e 12 rfl) ?_
        refine wp_skip ?_
        refine wp_seq ?_
        refine wp_block ?_
        refine wp_seq ?_
        refine wpr 4 ?_
        refine opk 0 13 kk (frY rfl (k_move rfl (kk.e 11 rfl))) ?_; clear kk; intro a kk
        refine opk 1 14 (v := .string ⟨(Rfc.wd i).toArray⟩) kk (frY rfl (k_idxWD rfl (kk.e 10 rfl) (kk.e 11 rfl) hlt)) ?_; clear kk; intro a kk
        refine opk 2 4 kk (frY rfl (k_assign rfl (kk.e 13 rfl))) ?_; clear kk; intro a kk
        refine opk 3 5 kk (frY rfl (k_assign rfl (kk.e 14 rfl))) ?_; clear kk; intro a kk
        refine wp_seq ?_
        refine wpr 8 ?_
        refine opk 0 16 kk (frY rfl (k_move rfl (kk.e 0 rfl))) ?_; clear kk; intro a kk
        refine opk 1 17 kk (frY rfl (k_move rfl (kk.e 5 rfl))) ?_; clear kk; intro a kk
        have hc := cutSuf_any s (Rfc.wd i) wx hl
        refine opkc 2 18 kk hc (frY rfl (c_CutSuf rfl rfl (kk.e 16 rfl) (kk.e 17 rfl))) ?_; clear kk hc
        rintro _ wx a ⟨rfl, rfl⟩ F0
        rw [hS] at F0
        have kk := F0; clear F0
        refine opk 3 15 kk (frY rfl (k_move rfl (kk.e 18 rfl))) ?_; clear kk; intro a kk
        refine opk 4 19 (v := .string ⟨(Lib.trimSuffix s (Rfc.wd i)).toArray⟩) kk (frY rfl (k_extract rfl (kk.e 15 rfl) rfl)) ?_; clear kk; intro a kk
        refine opk 5 20 (v := .bool true) kk (frY rfl (k_extract rfl (kk.e 15 rfl) rfl)) ?_; clear kk; intro a kk
        refine opk 6 6 kk (frY rfl (k_assign rfl (kk.e 19 rfl))) ?_; clear kk; intro a kk
        refine opk 7 7 kk (frY rfl (k_assign rfl (kk.e 20 rfl))) ?_; clear kk; intro a kk
        refine wp_seq ?_
        refine wp_seq ?_
        refine wpr 2 ?_
        refine opk 0 21 kk (frY rfl (k_move rfl (kk.e 7 rfl))) ?_; clear kk; intro a kk
        refine opk 1 22 (v := .bool false) kk (frY rfl (o_not rfl (kk.e 21 rfl) rfl)) ?_; clear kk; intro a kk
        refine wp_cond_false (kk.e 22 rfl) ?_
        refine wp_skip ?_
        refine wp_seq ?_
        refine wp_seq ?_
        refine wpr 2 ?_
        refine opk 0 23 kk (frY rfl (k_move rfl (kk.e 6 rfl))) ?_; clear kk; intro a kk
        refine opk 1 24 (v := .bool false) kk (frY rfl (o_eqStr rfl (kk.e 23 rfl) rfl (by rw [ba_list, show (⟨#[]⟩ : ByteArray).toList = [] from ba_list []]; simp [he]))) ?_; clear kk; intro a kk
        refine wp_cond_false (kk.e 24 rfl) ?_
        refine wp_skip ?_
        refine wp_seq ?_
        refine wpr 7 ?_
        refine opk 0 28 kk (frY rfl (k_move rfl (kk.e 6 rfl))) ?_; clear kk; intro a kk
        have hc := pz_any (Lib.trimSuffix s (Rfc.wd i)) wx hT1 (Nat.le_trans (trim_le _ _) hl)
        refine opkc 1 29 kk hc (frY rfl (c_pNz rfl rfl (kk.e 28 rfl))) ?_; clear kk hc
        rintro _ w2 a ⟨rfl, l2⟩ F0
        have kk := F0; clear F0
        have q2 := q1.below l2 q1.lt
        refine opk 2 27 kk (frY rfl (k_move rfl (kk.e 29 rfl))) ?_; clear kk; intro a kk
        refine opk 3 30 (v := .int .i64 ((Rfc.pnz (Lib.trimSuffix s (Rfc.wd i))).getD 0)) kk (frY rfl (k_extract rfl (kk.e 27 rfl) rfl)) ?_; clear kk; intro a kk
        refine opk 4 31 (v := .bool (Rfc.pnz (Lib.trimSuffix s (Rfc.wd i))).isSome) kk (frY rfl (k_extract rfl (kk.e 27 rfl) rfl)) ?_; clear kk; intro a kk
        refine opk 5 8 kk (frY rfl (k_assign rfl (kk.e 30 rfl))) ?_; clear kk; intro a kk
        refine opk 6 9 kk (frY rfl (k_assign rfl (kk.e 31 rfl))) ?_; clear kk; intro a kk
        refine wp_seq ?_
        refine wpr 6 ?_
        refine opk 0 32 kk (frY rfl (k_move rfl (kk.e 8 rfl))) ?_; clear kk; intro a kk
        refine opk 1 33 kk (frY rfl (k_move rfl (kk.e 4 rfl))) ?_; clear kk; intro a kk
        refine opk 2 34 (v := .agg #[.int .i64 ((Rfc.pnz (Lib.trimSuffix s (Rfc.wd i))).getD 0), .int .i64 i]) kk (frY rfl (k_buildN rfl (kk.e 32 rfl) (kk.e 33 rfl))) ?_; clear kk; intro a kk
        refine opk 3 35 kk (frY rfl (k_move rfl (kk.e 9 rfl))) ?_; clear kk; intro a kk
        refine opL_store 4 (w' := (w2.setRow w.heap.size #[.int .i64 ((Rfc.pnz (Lib.trimSuffix s (Rfc.wd i))).getD 0), .int .i64 i])) (by kernel_rfl) ?_ ?_
        · exact frY rfl (k_storeS2 rfl (kk.e 2 rfl) (kk.e 34 rfl) q2 (by kernel_rfl) rfl rfl (by simp [Value.oneCell']))
        have qe := q2.setRow (cs := #[.int .i64 ((Rfc.pnz (Lib.trimSuffix s (Rfc.wd i))).getD 0), .int .i64 i])
        have le := (exc_setRow w2 w.heap.size #[.int .i64 ((Rfc.pnz (Lib.trimSuffix s (Rfc.wd i))).getD 0), .int .i64 i] w.heap.size).below (Nat.le_refl _)
        refine opk 5 3 (w' := (w2.setRow w.heap.size #[.int .i64 ((Rfc.pnz (Lib.trimSuffix s (Rfc.wd i))).getD 0), .int .i64 i])) kk (frY rfl (k_assign rfl (kk.e 35 rfl))) ?_; clear kk; intro a kk
        refine wp_ret ?_
        exact hfin a _ _ _ _ kk.d (kk.g 2 rfl) qe (kk.g 3 rfl) (by rw [hidx, Rfc.pwd_num hlt hS he]) ((l1.trans (l2.mono l1.size)).trans (le.mono (Nat.le_refl _)))
  obtain rfl : i = 7 := by omega
  refine wp_seq ?_
  refine wpr 1 ?_
  refine opk 0 12 (v := .bool false) kk (frY rfl (o_ltI rfl (kk.e 11 rfl) rfl (decide_eq_false (by decide)))) ?_; clear kk; intro a kk
  refine wp_seq ?_
  refine wp_cond_false (kk.e 12 rfl) ?_
  refine wp_exit ?_
  change Code.wp _ _ _ _ _
  refine wp_seq ?_
  refine wpr 3 ?_
  refine opk 0 37 (v := .agg #[.int .i64 0, .int .i64 0]) kk (frY rfl (k_buildN0 rfl)) ?_; clear kk; intro a kk
  refine opL_store 1 (w' := (wx.setRow w.heap.size #[.int .i64 0, .int .i64 0])) (by kernel_rfl) ?_ ?_
  · exact frY rfl (k_storeS2 rfl (kk.e 2 rfl) (kk.e 37 rfl) q1 (by kernel_rfl) rfl rfl (by simp [Value.oneCell']))
  have qe := q1.setRow (cs := #[.int .i64 0, .int .i64 0])
  have le := (exc_setRow wx w.heap.size #[.int .i64 0, .int .i64 0] w.heap.size).below (Nat.le_refl _)
  refine opk 2 3 (v := .bool false) (w' := (wx.setRow w.heap.size #[.int .i64 0, .int .i64 0])) kk (frY rfl (k_assign rfl rfl)) ?_; clear kk; intro a kk
  refine wp_ret ?_
  exact hfin a _ _ _ _ kk.d (kk.g 2 rfl) qe (kk.g 3 rfl) (by rw [hidx]; rfl) (l1.trans (le.mono (Nat.le_refl _)))
end Go.Proofs.YtjdjekpbjnkliaaGreatDoor
namespace Go.Proofs.YtjdjekpbjnkliaaGreatDoor
open Go.RowKit Go.Sort Go.Shelf Go.Lib
def encN (x : Int × Int) : List Value := [.int .i64 x.1, .int .i64 x.2]
abbrev Wk : Type := { p : Int × Int // -53 ≤ p.1 ∧ p.1 ≤ 53 ∧ 0 ≤ p.2 ∧ p.2 ≤ 6 }
instance : Inhabited Wk := ⟨⟨(0, 0), by decide⟩⟩
end Go.Proofs.YtjdjekpbjnkliaaGreatDoor
namespace Go.Proofs.YtjdjekpbjnkliaaGreatDoor.Mk
open Go.RowKit Go.Sort
def put (out : List Int) (k : Int) : List Int := if (k != 0) && !(out.contains k) then out ++ [k] else out
end Go.Proofs.YtjdjekpbjnkliaaGreatDoor.Mk
namespace Go.Proofs.YtjdjekpbjnkliaaGreatDoor
open Go.RowKit Go.Sort
namespace Mk
def monOut (l : List Int) : List Int := l.map fun m => 1 + m.tmod 12
def mon (l : List Int) : List Int := Lib.compact ((monOut l).mergeSort fun x y => decide (x ≤ y))
end Mk
def WksIn (w : World) (A : Option Addr) (l : List (Int × Int)) : Prop :=
  ∀ k (h : k < l.length), ∃ ad : Addr, A = some ad ∧ ad.block < w.heap.size ∧ w.cell? (ad.add (k * 2)) = some (.int .i8 l[k].1) ∧ w.cell? ((ad.add (k * 2)).add 1) = some (.int .u8 l[k].2)
theorem WksIn.below {w w' : World} {A : Option Addr} {l : List (Int × Int)} (h : WksIn w A l) (hb : Below w.heap.size w w') : WksIn w' A l := fun k hk => by
  obtain ⟨ad, rfl, hlt, hc, hd⟩ := h k hk
  exact ⟨ad, rfl, Nat.lt_of_lt_of_le hlt hb.size, (hb.cell (p := ad.add (k * 2)) (by rw [block_add]; exact hlt)).trans hc, (hb.cell (p := (ad.add (k * 2)).add 1) (by rw [block_add, block_add]; exact hlt)).trans hd⟩
theorem OwnI.base {w : World} {b b' : Nat} {v : Value} {L : List Int} (h : OwnI w b v L) (hb : b' ≤ b) : OwnI w b' v L := by
  refine ⟨h.1, ?_⟩
  rcases h.2 with hn | ⟨g, cap, cur, e, h1, rest⟩
  · exact .inl hn
  · exact .inr ⟨g, cap, cur, e, by omega, rest⟩
theorem OwnN.base {w : World} {b b' : Nat} {v : Value} {L : List (Int × Int)} (h : OwnN w b v L) (hb : b' ≤ b) : OwnN w b' v L := by
  refine ⟨h.1, ?_⟩
  rcases h.2 with hn | ⟨g, cap, cur, e, h1, rest⟩
  · exact .inl hn
  · exact .inr ⟨g, cap, cur, e, by omega, rest⟩
theorem OwnI.below {w w' : World} {b : Nat} {v : Value} {L : List Int} (h : OwnI w b v L) (e : Below w.heap.size w w') : OwnI w' b v L :=
  h.exc (Exc.of (b := w.heap.size) e) (fun g hg => by have := (h.lt g hg).2; omega)
theorem OwnN.below {w w' : World} {b : Nat} {v : Value} {L : List (Int × Int)} (h : OwnN w b v L) (e : Below w.heap.size w w') : OwnN w' b v L :=
  h.exc (Exc.of (b := w.heap.size) e) (fun g hg => by have := (h.lt g hg).2; omega)
theorem Exc.cell {B b : Nat} {w w' : World} (e : Exc B b w w') {p : Addr} (h1 : p.block < B) (h2 : p.block ≠ b) : w'.cell? p = w.cell? p := World.cell?_of_block (e.block p.block h1 h2)
end Go.Proofs.YtjdjekpbjnkliaaGreatDoor
