/-
  The law's Form, over letters: Itoa and HasSuffix by the shelf's contracts.
-/
import Derived.Test.YtjfchpfbpmediaaGreatDoorPu1
import Derived.Test.YtjfchpfbpmediaaGreatDoorShelf
import Derived.Lib.ItoaLen
namespace Go.Proofs.YtjfchpfbpmediaaGreatDoor
open Go Go.RowKit
/-- the table that Itoa reads -/
def Pow (w : World) : Prop := Lib.TabIs Tryz.prog w "internal/strconv.uint64pow10" .u64 Lib.pow10Tab
theorem Pow.keep {w w' : World} (h : Pow w) (k : ∀ b, (kep w) b → w'.heap[b]? = (kep w).ob b) : Pow w' := by
  unfold Pow Lib.TabIs World.var? at *
  cases hg : Tryz.prog.globalNamed "internal/strconv.uint64pow10" with
  | none => simp [hg] at h
  | some g =>
    simp only [hg, Option.bind_some] at h ⊢
    have hlt : g < w.heap.size := by
      rcases Nat.lt_or_ge g w.heap.size with h' | h'
      · exact h'
      · rw [Array.getElem?_eq_none h'] at h; simp at h
    rw [show w'.heap[g]? = w.heap[g]? from k g hlt]
    exact h
theorem dd_len (n : Nat) (h : n ≤ 9223372036854775807) : (Lib.decDigits n).length ≤ 21 := by
  have := Lib.itoa_length_le (n : Int) (by omega) (by omega)
  rwa [Lib.itoa_nonneg] at this
section
variable {X : Kep} {base : Nat}
theorem grow_below {w w' : World} (h : ∃ k os, w' = Go.Sort.grow (w.drewN k) os) : Below w.heap.size w w' := by
  obtain ⟨k, os, rfl⟩ := h
  exact ⟨rfl, rfl, rfl, by simp, fun i hi => Go.Sort.heap_grow_old _ _ (by simpa using hi)⟩
/-- Itoa of a letter -/
theorem pe_itoa [Ltr] {l : List (Nat × Nat)} (hl : ∀ p ∈ l, ∃ n : Nat, n ≤ 9223372036854775807 ∧ Ltr.v p.1 = some (.int .i64 n) ∧ Ltr.v p.2 = some (.string ⟨⟨Lib.decDigits n⟩⟩)) (hP : ∀ w : World, (∀ b, X b → w.heap[b]? = X.ob b) → Pow w) : PEOk Tryz.prog X base (19, patP (l.map fun p => ([Lt p.1], Lt p.2))) :=
  patP_ok fun p hp E w args' k ha => by
    obtain ⟨q, hq, rfl⟩ := List.mem_map.1 hp
    obtain ⟨n, hn, h1, h2⟩ := hl q hq
    cases ha with
    | cons r1 t1 =>
      cases t1
      rw [is_ltr h1 E _ r1]
      refine (Tryz.strconv_Itoa n (by omega) (by omega) w (hP w k)).mono fun e w' p => ⟨_, p.1, ?_, grow_below p.2⟩
      rw [Lib.itoa_nonneg]
      exact .ltr h2 rfl
/-- HasSuffix of a letter and a text -/
theorem pe_suf [Ltr] {i : Nat} {s : List UInt8} (hi : Ltr.v i = some (.string ⟨⟨s⟩⟩)) (hs : s.length ≤ 100) {l : List (List UInt8 × Bool)} (hl : ∀ p ∈ l, Lib.hasSuffix s p.1 = p.2) : PEOk Tryz.prog X base (20, patP (l.map fun p => ([Lt i, .string ⟨⟨p.1⟩⟩], .bool p.2))) :=
  patP_ok fun p hp E w args' k ha => by
    obtain ⟨q, hq, rfl⟩ := List.mem_map.1 hp
    cases ha with
    | cons r1 t1 =>
      cases t1 with
      | cons r2 t2 =>
        cases t2
        rw [is_ltr hi E _ r1, is_flat rfl E _ r2]
        refine (Tryz.strings_HasSuffix ⟨⟨s⟩⟩ ⟨⟨q.1⟩⟩ w (by show s.length ≤ _; omega)).mono fun e w' p => ⟨_, p.1, ?_, by rw [p.2]; exact Below.refl _ _⟩
        rw [show Lib.hasSuffix (⟨⟨s⟩⟩ : ByteArray).data.toList (⟨⟨q.1⟩⟩ : ByteArray).data.toList = q.2 from hl q hq]
        exact .same rfl
end
/-- two texts: the same? -/
theorem s_eq [Ltr] {i : Nat} {s t : List UInt8} {b : Bool} (hi : Ltr.v i = some (.string ⟨⟨s⟩⟩)) (h : decide (s = t) = b) : OEOk Tryz.prog (binT .eql 9 9 (Lt i) (.string ⟨⟨t⟩⟩) (.bool b)) :=
  binT_ok fun o ρ x y E w ho hx hy => by
    have e1 := is_ltr hi E _ hx
    have e2 := is_flat rfl E _ hy
    refine ⟨.bool b, ?_, .same rfl⟩
    subst h
    simp only [execOp, ho, e1, e2]
    go_simp
    rw [Bool.eq_iff_iff]
    simp
def dgc (n : Nat) : Nat := if n % 10 = 2 then 1 else if n % 10 = 3 then 2 else if n % 10 = 4 then 3 else 0
theorem lform_any (k n : Nat) (hk : k < 3) (h : n ≤ 9223372036854775807) (w : World) (hP : Pow w) : Calls Tryz.prog 11 #[.int .i64 k, .int .i64 n] w fun e w' => e = .returned (.int .i64 (Plu.form k n)) ∧ Below w.heap.size w w' := by
  have key : ∀ (k : Nat), k < 3 → ∀ d : Nat, d < 4 → ∀ t a c : Bool, Sym [binT .eql 9 9 (Lt 1) (.string ⟨⟨[49]⟩⟩) (.bool a), binT .eql 9 9 (Lt 1) (.string ⟨⟨[48]⟩⟩) (.bool c)]
      [(19, patP ([(0, 1)].map fun p => ([Lt p.1], Lt p.2))), (20, patP ([([50], Nat.beq d 1), ([51], Nat.beq d 2), ([52], Nat.beq d 3), ([49, 50], Nat.beq d 1 && t), ([49, 51], Nat.beq d 2 && t), ([49, 52], Nat.beq d 3 && t)].map fun p => ([Lt 1, .string ⟨⟨p.1⟩⟩], .bool p.2)))]
      40 11 [.int .i64 k, Lt 0] (.int .i64 (bif a || (c && Nat.beq k 1) then 0 else bif Nat.beq k 2 && (Nat.beq d 0 || t) then 2 else 1)) := by
    intro k hk d hd t a c
    have e : k = 0 ∨ k = 1 ∨ k = 2 := by omega
    have e' : d = 0 ∨ d = 1 ∨ d = 2 ∨ d = 3 := by omega
    clear hk hd
    rcases e with rfl | rfl | rfl <;> rcases e' with rfl | rfl | rfl | rfl <;> cases t <;> cases a <;> cases c <;> (delta Sym; show _ = _; kernel_rfl)
  let L : List Value := [.int .i64 n, .string ⟨⟨Lib.decDigits n⟩⟩]
  let _ : Ltr := ltrL L
  have d1 := Plu.suf_digit n 2 (by omega)
  have d2 := Plu.suf_digit n 3 (by omega)
  have d3 := Plu.suf_digit n 4 (by omega)
  have t1 := Plu.suf_teen n 2 (by omega)
  have t2 := Plu.suf_teen n 3 (by omega)
  have t3 := Plu.suf_teen n 4 (by omega)
  have g1 : decide (n % 10 = 2) = Nat.beq (dgc n) 1 := by unfold dgc; split <;> (try split) <;> (try split) <;> simp_all [Nat.beq]
  have g2 : decide (n % 10 = 3) = Nat.beq (dgc n) 2 := by unfold dgc; split <;> (try split) <;> (try split) <;> simp_all [Nat.beq]
  have g3 : decide (n % 10 = 4) = Nat.beq (dgc n) 3 := by unfold dgc; split <;> (try split) <;> (try split) <;> simp_all [Nat.beq]
  have g0 : dgc n < 4 := by unfold dgc; split <;> (try split) <;> (try split) <;> omega
  refine (symF L 40
    (ac (s_eq rfl rfl) (ac (s_eq rfl rfl) an))
    (ac (pe_itoa (ac ⟨n, h, rfl, rfl⟩ an) fun w' k => hP.keep k) (ac (pe_suf rfl (Nat.le_trans (dd_len n h) (by omega)) (ac (d1.trans g1) (ac (d2.trans g2) (ac (d3.trans g3) (ac (t1.trans (by rw [g1])) (ac (t2.trans (by rw [g2])) (ac (t3.trans (by rw [g3])) an))))))) an))
    (.cons (.same rfl) (.cons (.ltr rfl rfl) .nil)) rfl (key k hk (dgc n) g0 (decide (n / 10 % 10 = 1)) _ _)).mono fun e w' p => ?_
  refine ⟨p.1.trans ?_, p.2⟩
  congr 2
  have i1 := Plu.dd_is n 1 (by omega)
  have i0 := Plu.dd_is n 0 (by omega)
  rw [show decide (Lib.decDigits n = [49]) = decide (n = 1) from decide_eq_decide.2 i1, show decide (Lib.decDigits n = [48]) = decide (n = 0) from decide_eq_decide.2 i0]
  have f : (Nat.beq (dgc n) 0 || decide (n / 10 % 10 = 1)) = !Plu.few n := by
    unfold Plu.few dgc
    rw [Bool.eq_iff_iff]
    split <;> (try split) <;> (try split) <;> simp [Nat.beq] <;> omega
  rw [f]
  unfold Plu.form
  have e : k = 0 ∨ k = 1 ∨ k = 2 := by omega
  rcases e with rfl | rfl | rfl <;> by_cases h1 : n = 1 <;> by_cases h0 : n = 0 <;> cases hf : Plu.few n <;> simp [h1, h0, Nat.beq]
end Go.Proofs.YtjfchpfbpmediaaGreatDoor
