/-
  Contract of plural's Join, over letters; strings.Join of texts that lie in memory.
-/
import Derived.Test.YtcplkbflpopoaaaGreatDoorEvV
import Derived.Test.YtcplkbflpopoaaaGreatDoorPu3
import Derived.Lib.Join
import Derived.Lib.ItoaMem
namespace Go.Proofs.YtcplkbflpopoaaaGreatDoor
open Go Go.RowKit
/-- texts lie at an address -/
def StrsIn (w : World) (A : Option Addr) (L : List (List UInt8)) : Prop := ∀ i (h : i < L.length), ∃ b o, A = some ⟨b, o, none⟩ ∧ w.cell? ⟨b, o + i, none⟩ = some (.string ⟨⟨L[i]⟩⟩)
theorem StrsIn.keep {w w' : World} {A : Option Addr} {L : List (List UInt8)} (h : StrsIn w A L) (k : ∀ b, (kep w) b → w'.heap[b]? = (kep w).ob b) : StrsIn w' A L := fun i hi => by
  obtain ⟨b, o, e, hc⟩ := h i hi
  have hb : b < w.heap.size := World.block_lt_of_cell? _ _ hc
  have h2 : w'.heap[b]? = w.heap[b]? := k b hb
  refine ⟨b, o, e, ?_⟩
  rw [← hc]
  simp only [World.cell?, h2]
theorem join_any (A : Option Addr) (L : List (List UInt8)) (c : Nat) (sep : List UInt8) (w : World) (hL : StrsIn w A L) (hc : L.length ≤ c) (hn : L.length ≤ 1048576) (hlen : (Lib.join L sep).length ≤ 140737488355328) :
    Calls Tryz.prog 16 #[.slice A L.length c, .string ⟨⟨sep⟩⟩] w fun e w' => e = .returned (.string ⟨⟨Lib.join L sep⟩⟩) ∧ Below w.heap.size w w' := by
  cases L with
  | nil =>
    refine (Tryz.strings_Join_none A c ⟨⟨sep⟩⟩ w).mono fun e w' p => ⟨p.1, by rw [p.2]; exact Below.refl _ _⟩
  | cons x L =>
    obtain ⟨b, o, rfl, hc0⟩ := hL 0 (by simp)
    have e1 : ((x :: L).map fun z => (⟨⟨z⟩⟩ : ByteArray)).map (·.data.toList) = x :: L := by rw [List.map_map]; exact (List.map_congr_left fun _ _ => rfl).trans (List.map_id _)
    have h := Tryz.strings_Join b o c ((x :: L).map fun z => (⟨⟨z⟩⟩ : ByteArray)) ⟨⟨sep⟩⟩ w (fun j z hj => by
      simp only [List.getElem?_map, Option.map_eq_some_iff] at hj
      obtain ⟨y, hy, rfl⟩ := hj
      have hlt : j < (x :: L).length := (List.getElem?_eq_some_iff.1 hy).1
      obtain ⟨b', o', e', hc'⟩ := hL j hlt
      obtain ⟨rfl, rfl, -⟩ := Addr.mk.inj (Option.some.inj e')
      rw [hc', (List.getElem?_eq_some_iff.1 hy).2]) (World.block_lt_of_cell? _ _ hc0) (by rw [List.length_map]; omega) (by rw [List.length_map]; exact hc) (by rw [e1]; exact hlen)
    rw [e1, List.length_map] at h
    exact h
/-- what plural's Join answers -/
def pjoin (L : List (List UInt8)) (a : List UInt8) : List UInt8 := if L.length < 2 then Lib.join L [] else Lib.join (L.take (L.length - 1)) [44, 32] ++ [32] ++ a ++ [32] ++ L.getD (L.length - 1) []
theorem pjoin_any (A : Option Addr) (L : List (List UInt8)) (c : Nat) (a : List UInt8) (w : World) (hL : StrsIn w A L) (hc : L.length ≤ c) (hn : L.length ≤ 20) (h1 : (Lib.join L []).length ≤ 100000) (h2 : (Lib.join (L.take (L.length - 1)) [44, 32]).length ≤ 100000) (h3 : a.length ≤ 100000) (h4 : (L.getD (L.length - 1) []).length ≤ 100000) :
    Calls Tryz.prog 17 #[.slice A L.length c, .string ⟨⟨a⟩⟩] w fun e w' => e = .returned (.string ⟨⟨pjoin L a⟩⟩) ∧ Below w.heap.size w w' := by
  by_cases h : L.length < 2
  · let M : List Value := [.slice A L.length c, .string ⟨⟨a⟩⟩, .int .i64 L.length, .string ⟨⟨Lib.join L []⟩⟩]
    let _ : Ltr := ltrL M
    refine (symL M 40 (O := [lenE 41 (Lt 0) (Lt 2), binE .lss (Lt 2) (.int .i64 2) (.bool true)]) (l := [(16, patP [([Lt 0, .string ⟨⟨[]⟩⟩], Lt 3)])]) (args := [Lt 0, Lt 1]) (i := 3) (u := .string ⟨⟨Lib.join L []⟩⟩)
      (ac (l_sl rfl rfl) (ac (binE_num (is_ltr rfl) (is_flat rfl) (x_lt (m := 2) (decide_eq_true h)) (to_flat rfl)) an)) (ac (patP_ok (ac (fun E w' args' k ha => ?_) an)) an) (.cons (.ltr rfl rfl) (.cons (.ltr rfl rfl) .nil)) rfl (by delta Sym; show _ = _; kernel_rfl)).mono fun e w' p => ⟨p.1.trans ?_, p.2⟩
    · cases ha with
      | cons r1 t1 =>
        cases t1 with
        | cons r2 t2 =>
          cases t2
          rw [is_ltr (u := .slice A L.length c) rfl E _ r1, is_flat rfl E _ r2]
          exact (join_any A L c [] w' (hL.keep k) hc (by omega) (by omega)).mono fun e w2 p => ⟨_, p.1, .ltr rfl rfl, p.2⟩
    · unfold pjoin; rw [if_pos h]
  · obtain ⟨b, o, rfl, -⟩ := hL 0 (by omega)
    let n1 := L.length - 1
    let T := L.take (L.length - 1)
    have hT : T.length = L.length - 1 := by simp [T]
    let J := Lib.join T [44, 32]
    let z := L.getD (L.length - 1) []
    let M : List Value := [.slice (some ⟨b, o, none⟩) L.length c, .string ⟨⟨a⟩⟩, .int .i64 L.length, .int .i64 (L.length - 1 : Nat), .slice (some ⟨b, o, none⟩) (L.length - 1) c, .string ⟨⟨J⟩⟩, .string ⟨⟨J ++ [32]⟩⟩, .string ⟨⟨J ++ [32] ++ a⟩⟩, .string ⟨⟨J ++ [32] ++ a ++ [32]⟩⟩, .pointer (some ((⟨b, o, none⟩ : Addr).add (L.length - 1))), .string ⟨⟨z⟩⟩, .string ⟨⟨J ++ [32] ++ a ++ [32] ++ z⟩⟩]
    let _ : Ltr := ltrL M
    have hz : L[L.length - 1]'(by omega) = z := by simp [z, List.getElem?_eq_getElem (show L.length - 1 < L.length by omega)]
    have hJ : J.length ≤ 100000 := h2
    have hz4 : z.length ≤ 100000 := h4
    have cell : ∀ w' : World, (∀ b, (kep w) b → w'.heap[b]? = (kep w).ob b) → w'.cell? ((⟨b, o, none⟩ : Addr).add (L.length - 1)) = some (.string ⟨⟨z⟩⟩) := fun w' k => by
      obtain ⟨b', o', e', hc'⟩ := hL.keep k (L.length - 1) (by omega)
      obtain ⟨rfl, rfl, -⟩ := Addr.mk.inj (Option.some.inj e')
      rw [hz] at hc'
      rw [show ((⟨b, o, none⟩ : Addr).add (L.length - 1)) = ⟨b, o + (L.length - 1), none⟩ from Lib.add_plain b o _]
      exact hc'
    refine (symX (O := [lenE 41 (Lt 0) (Lt 2), binE .lss (Lt 2) (.int .i64 2) (.bool false), binE .sub (Lt 2) (.int .i64 1) (Lt 3), cutE 41 (Lt 0) (Lt 3) (Lt 4), binT .add 9 9 (Lt 5) (.string ⟨⟨[32]⟩⟩) (Lt 6), binT .add 9 9 (Lt 6) (Lt 1) (Lt 7), binT .add 9 9 (Lt 7) (.string ⟨⟨[32]⟩⟩) (Lt 8), iaE 41 (Lt 0) (Lt 3) (Lt 9), ldE 9 (Lt 9) (Lt 10), binT .add 9 9 (Lt 8) (Lt 10) (Lt 11)])
      (l := [(16, patP [([Lt 4, .string ⟨⟨[44, 32]⟩⟩], Lt 5)])]) (args := [Lt 0, Lt 1]) (v := Lt 11) (n := 40)
      (ac (l_sl rfl rfl).x (ac (binE_num (is_ltr rfl) (is_flat rfl) (x_lt (m := 2) (decide_eq_false h)) (to_flat rfl)).x (ac (binE_num (is_ltr rfl) (is_flat rfl) (x_sub (m := 1) (by omega) (by omega)) (to_ltr rfl rfl)).x (ac (s_cut rfl rfl rfl (by omega) (by omega)).x
        (ac (s_add (is_ltr rfl) (is_flat rfl) rfl rfl (by simp; omega)).x (ac (s_add (is_ltr rfl) (is_ltr rfl) rfl rfl (by simp; omega)).x (ac (s_add (is_ltr rfl) (is_flat rfl) rfl rfl (by simp; omega)).x (ac (a_el rfl rfl rfl (by omega)).x (ac (l_el rfl rfl cell) (ac (s_add (is_ltr rfl) (is_ltr rfl) rfl rfl (by simp; omega)).x an))))))))))
      (ac (patP_ok (ac (fun E w' args' k ha => ?_) an)) an) (.cons (.ltr rfl rfl) (.cons (.ltr rfl rfl) .nil)) (by delta Sym; show _ = _; kernel_rfl)).mono fun e w' p => ?_
    · cases ha with
      | cons r1 t1 =>
        cases t1 with
        | cons r2 t2 =>
          cases t2
          rw [is_ltr (u := .slice (some ⟨b, o, none⟩) (L.length - 1) c) rfl E _ r1, is_flat rfl E _ r2, ← hT]
          have hTs : StrsIn w' (some ⟨b, o, none⟩) T := fun i hi => by
            obtain ⟨b', o', e', hc'⟩ := hL.keep k i (by omega)
            exact ⟨b', o', e', by rw [hc']; simp [T]⟩
          exact (join_any (some ⟨b, o, none⟩) T c [44, 32] w' hTs (by omega) (by omega) (Nat.le_trans hJ (by omega))).mono fun e w2 p => ⟨_, p.1, .ltr rfl rfl, p.2⟩
    · obtain ⟨v', F, rfl, r, bl⟩ := p
      refine ⟨?_, bl⟩
      rw [is_ltr (u := .string ⟨⟨J ++ [32] ++ a ++ [32] ++ z⟩⟩) rfl F _ r]
      unfold pjoin
      rw [if_neg h]
end Go.Proofs.YtcplkbflpopoaaaGreatDoor
