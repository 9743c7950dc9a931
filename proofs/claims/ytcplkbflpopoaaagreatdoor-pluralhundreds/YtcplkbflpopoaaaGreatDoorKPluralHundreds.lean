/-
  The law PluralHundreds: every call of it returns true, from a world that holds the tables.
-/
import Derived.Test.YtcplkbflpopoaaaGreatDoorKPluralApart
import Derived.Shelf.Strings.SlTrimAscii
namespace Go.Proofs.YtcplkbflpopoaaaGreatDoor
open Go Go.RowKit
namespace Plu
/-- the ten digits -/
def digs : List UInt8 := [48, 49, 50, 51, 52, 53, 54, 55, 56, 57]
theorem digs_isd {c : UInt8} (h : isd c = true) : digs.contains c = true := by
  simp only [isd, Bool.and_eq_true, decide_eq_true_eq] at h
  have e : c = UInt8.ofNat c.toNat := by simp
  have hm : c.toNat = 48 ∨ c.toNat = 49 ∨ c.toNat = 50 ∨ c.toNat = 51 ∨ c.toNat = 52 ∨ c.toNat = 53 ∨ c.toNat = 54 ∨ c.toNat = 55 ∨ c.toNat = 56 ∨ c.toNat = 57 := by omega
  rcases hm with h | h | h | h | h | h | h | h | h | h <;> (rw [e, h]; rfl)
theorem endg_first (s n : Nat) : ∃ c r, endg s n = c :: r ∧ digs.contains c = false := by
  unfold endg
  split
  · unfold eng
    split
    · exact ⟨_, _, rfl, rfl⟩
    · split
      · exact ⟨_, _, rfl, rfl⟩
      · split
        · exact ⟨_, _, rfl, rfl⟩
        · split <;> exact ⟨_, _, rfl, rfl⟩
  · split
    · exact ⟨_, _, rfl, rfl⟩
    · split <;> exact ⟨_, _, rfl, rfl⟩
theorem trim_ord (s n : Nat) : Lib.trimLeftS (ord s n) digs = endg s n := by
  obtain ⟨c, r, e, hc⟩ := endg_first s n
  unfold Lib.trimLeftS ord
  rw [List.dropWhile_append_of_pos (fun c hc => digs_isd (dd_isd n c hc)), e, List.dropWhile_cons, hc]
  rfl
theorem form_100 (k : Nat) (n : Nat) (h : 2 ≤ n) : form k n = form k (n + 100) := by
  have e : few n = few (n + 100) := by
    unfold few
    rw [show (n + 100) % 10 = n % 10 by omega, show (n + 100) / 10 % 10 = n / 10 % 10 by omega]
  unfold form
  rw [e, if_neg (show ¬ (n = 1 ∨ (k : Int) = 1 ∧ n = 0) by omega), if_neg (show ¬ (n + 100 = 1 ∨ (k : Int) = 1 ∧ n + 100 = 0) by omega)]
theorem endg_100 (s n : Nat) (h : 2 ≤ n) : endg s n = endg s (n + 100) := by
  unfold endg eng
  rw [show (n + 100) % 10 = n % 10 by omega, show (n + 100) / 10 % 10 = n / 10 % 10 by omega, if_neg (show ¬ n = 1 by omega), if_neg (show ¬ n + 100 = 1 by omega)]
theorem ord_pos (s n : Nat) : 0 < (ord s n).length := by
  have := List.length_pos_iff.2 (digits_ne n)
  unfold ord
  rw [List.length_append]
  omega
end Plu
theorem trim_any (s n : Nat) (w : World) : Calls Tryz.prog 19 #[.string ⟨⟨Plu.ord s n⟩⟩, .string ⟨⟨Plu.digs⟩⟩] w fun e w' => e = .returned (.string ⟨⟨Plu.endg s n⟩⟩) ∧ Below w.heap.size w w' := by
  refine (Any.strings_TrimLeft_set Tryz.lays161 (fun w => svp_run w (by kernel_rfl)) (by kernel_rfl) ⟨⟨Plu.ord s n⟩⟩ ⟨⟨Plu.digs⟩⟩ w (by decide) (Plu.ord_pos s n) (by decide) (fun j b hb => ?_)).mono fun e w' p => ⟨p.1.trans ?_, ?_⟩
  · have hm : b ∈ Plu.digs := List.mem_of_getElem? hb
    have : (Plu.digs.all fun b => decide (b.toNat < 128)) = true := by decide
    simpa using List.all_eq_true.1 this b hm
  · show Ending.returned (.string ⟨⟨Lib.trimLeftS (Plu.ord s n) Plu.digs⟩⟩) = _
    rw [Plu.trim_ord]
  · rw [p.2]
    have h1 : Below w.heap.size w (w.alloc (.cells (Lib.setCells (⟨⟨Plu.digs⟩⟩ : ByteArray).data.toList) (Tryz.lays161_ren.t 116))) := Below.alloc (Below.refl _ _) (Nat.le_refl _) _
    exact Below.alloc h1 h1.size _
theorem pat_txt [Ltr] {X : Kep} {f : FuncId} {i j : Nat} {u q : Value} {t : ByteArray} (hi : Ltr.v i = some u) (hj : Ltr.v j = some q) (hq : sgl q = true) (h : ∀ w : World, (∀ b, X b → w.heap[b]? = X.ob b) → Calls Tryz.prog f #[u, .string t] w fun e w' => e = .returned q ∧ Below w.heap.size w w') :
    ∀ (E : Ren) (w : World) (args' : List Value), (∀ b, X b → w.heap[b]? = X.ob b) → RelL E [Lt i, .string t] args' → Calls Tryz.prog f ⟨args'⟩ w fun e w' => ∃ v', e = .returned v' ∧ Rel E (Lt j) v' ∧ Below w.heap.size w w' := fun E w args' k ha => by
  cases ha with
  | cons r1 t1 =>
    cases t1 with
    | cons r2 t2 =>
      cases t2
      rw [is_ltr hi E _ r1, is_flat rfl E _ r2]
      exact (h w k).mono fun e w' p => ⟨_, p.1, .ltr hj hq, p.2⟩
theorem n_eql [Ltr] {i j : Nat} {a b : Int} (hi : Ltr.v i = some (.int .i64 a)) (hj : Ltr.v j = some (.int .i64 b)) (h : a = b) : OEOk Tryz.prog (binE .eql (Lt i) (Lt j) (.bool true)) := by
  subst h
  refine binE_num (is_ltr hi) (is_ltr hj) (q := .bool true) ?_ (to_flat rfl)
  show some (Value.bool (a == a)) = _
  simp
theorem pluralHundreds_walk (n k s : Nat) (hn : n ≤ 65535) (_hk : k ≤ 255) (_hs : s ≤ 255) (w : World) (hT : Tab7 w) : Calls Tryz.prog 8 #[.int .u16 n, .int .u8 k, .int .u8 s] w fun e w' => e = .returned (.bool true) ∧ Below w.heap.size w w' := by
  have key : ∀ k : Nat, k < 3 → ∀ s : Nat, s < 3 → Sym [binE .rem (Lt 1) (.int .u8 3) (.int .u8 k), binE .rem (Lt 2) (.int .u8 3) (.int .u8 s), cvE 35 3 (Lt 0) (Lt 3), binE .add (.int .i64 2) (Lt 3) (Lt 4), binE .add (Lt 4) (.int .i64 100) (Lt 5), binE .eql (Lt 6) (Lt 7) (.bool true), binT .eql 9 9 (Lt 10) (Lt 11) (.bool true)]
      [(9, fixP (.bool true)), (10, patP [([.int .i64 k, Lt 4], Lt 6), ([.int .i64 k, Lt 5], Lt 7)]), (12, patP [([.int .i64 s, Lt 4], Lt 8), ([.int .i64 s, Lt 5], Lt 9)]), (19, patP [([Lt 8, .string ⟨⟨Plu.digs⟩⟩], Lt 10), ([Lt 9, .string ⟨⟨Plu.digs⟩⟩], Lt 11)])]
      60 8 [Lt 0, Lt 1, Lt 2] (.bool true) := by
    intro k hk s hs
    have e1 : k = 0 ∨ k = 1 ∨ k = 2 := by omega
    have e2 : s = 0 ∨ s = 1 ∨ s = 2 := by omega
    clear hk hs
    rcases e1 with rfl | rfl | rfl <;> rcases e2 with rfl | rfl | rfl <;> (delta Sym; show _ = _; kernel_rfl)
  have hk : k % 3 < 3 := Nat.mod_lt _ (by omega)
  have hs : s % 3 < 3 := Nat.mod_lt _ (by omega)
  let L : List Value := [.int .u16 n, .int .u8 k, .int .u8 s, .int .i64 n, .int .i64 (2 + n : Nat), .int .i64 (2 + n + 100 : Nat), .int .i64 (Plu.form (k % 3 : Nat) (2 + n)), .int .i64 (Plu.form (k % 3 : Nat) (2 + n + 100)), .string ⟨⟨Plu.ord (s % 3) (2 + n)⟩⟩, .string ⟨⟨Plu.ord (s % 3) (2 + n + 100)⟩⟩, .string ⟨⟨Plu.endg (s % 3) (2 + n)⟩⟩, .string ⟨⟨Plu.endg (s % 3) (2 + n + 100)⟩⟩]
  let _ : Ltr := ltrL L
  exact symJ 60 (ac (binE_num (is_ltr rfl) (is_flat rfl) (x_rem8 (m := 3) (by omega)) (to_flat rfl)) (ac (binE_num (is_ltr rfl) (is_flat rfl) (x_rem8 (m := 3) (by omega)) (to_flat rfl)) (ac (cv_u16 hn rfl rfl) (ac (binE_num (is_flat rfl) (is_ltr rfl) (x_add (n := 2) (by omega)) (to_ltr rfl rfl)) (ac (binE_num (is_ltr rfl) (is_flat rfl) (x_add (m := 100) (by omega)) (to_ltr rfl rfl))
      (ac (n_eql rfl rfl (Plu.form_100 _ _ (by omega))) (ac (s_eq2 rfl rfl (decide_eq_true (Plu.endg_100 _ _ (by omega)))) an)))))))
    (ac (fixP_ok rfl fun w' k => awk7 w' (hT.t.keep k)) (ac (patP_ok (ac (pat_two rfl rfl rfl fun w' _ => form_any (k % 3) (2 + n) hk (by omega) w') (ac (pat_two rfl rfl rfl fun w' _ => form_any (k % 3) (2 + n + 100) hk (by omega) w') an)))
      (ac (patP_ok (ac (pat_two rfl rfl rfl fun w' k => ord_any (s % 3) (2 + n) hs (by omega) w' (hT.p.keep k)) (ac (pat_two rfl rfl rfl fun w' k => ord_any (s % 3) (2 + n + 100) hs (by omega) w' (hT.p.keep k)) an)))
        (ac (patP_ok (ac (pat_txt rfl rfl rfl fun w' _ => trim_any (s % 3) (2 + n) w') (ac (pat_txt rfl rfl rfl fun w' _ => trim_any (s % 3) (2 + n + 100) w') an))) an))))
    (.cons (.ltr rfl rfl) (.cons (.ltr rfl rfl) (.cons (.ltr rfl rfl) .nil))) rfl (key (k % 3) hk (s % 3) hs)
end Go.Proofs.YtcplkbflpopoaaaGreatDoor
