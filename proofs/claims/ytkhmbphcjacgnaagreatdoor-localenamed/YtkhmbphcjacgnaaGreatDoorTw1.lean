/-
  table: is a text a word? The program's isLetter, isWord.
-/
import Derived.Test.YtkhmbphcjacgnaaGreatDoorEk
namespace Go.Proofs.YtkhmbphcjacgnaaGreatDoor
open Go Go.RowKit
namespace Tbl
/-- may it stand in a sequence? -/
def lb (c : Nat) : Bool := (decide (97 ≤ c) && decide (c ≤ 122)) || decide (c = 39) || decide (128 ≤ c)
/-- the rest of a text, behind a letter or not: none: it is no word -/
def wd : Bool → List UInt8 → Option Bool
  | i, [] => some i
  | i, c :: l => bif lb c.toNat then wd true l else bif decide (c.toNat = 32) && i then wd false l else none
def isW (l : List UInt8) : Bool := (wd false l).getD false
theorem lb_high {c : Nat} (h : 128 ≤ c) : lb c = true := by simp [lb, h]
theorem wd_high : ∀ {n : Nat} {l : List UInt8} {i : Bool}, n + 1 ≤ l.length → (∀ j, j < n + 1 → 128 ≤ (l[j]!).toNat) → wd i l = wd true (l.drop (n + 1))
  | n, [], _, h, _ => by simp at h
  | 0, c :: l, i, _, h => by
    have := h 0 (by omega)
    simp only [List.getElem!_cons_zero] at this
    rw [wd, lb_high this]
    rfl
  | n + 1, c :: l, i, hl, h => by
    have h0 := h 0 (by omega)
    simp only [List.getElem!_cons_zero] at h0
    rw [wd, lb_high h0]
    show wd true l = wd true (l.drop (n + 1))
    exact wd_high (by simpa using hl) fun j hj => by
      have := h (j + 1) (by omega)
      simpa using this
theorem drop_at {s : ByteArray} {p : Nat} (h : p < s.size) : s.data.toList.drop p = s.data.toList[p]! :: s.data.toList.drop (p + 1) := by
  have h' : p < s.data.toList.length := h
  rw [List.drop_eq_getElem_cons h', List.getElem!_eq_getElem?_getD, List.getElem?_eq_getElem h']
  rfl
end Tbl
theorem let_any (r : Nat) (w : World) : Calls Tryz.prog 46 #[.int .i32 r] w fun e w' => e = .returned (.bool (Tbl.lb r)) ∧ Below w.heap.size w w' := by
  have key : ∀ a b c d : Bool, Sym [binE .geq (Lt 0) (.int .i32 (97 : Nat)) (.bool a), binE .leq (Lt 0) (.int .i32 (122 : Nat)) (.bool b), binE .eql (Lt 0) (.int .i32 (39 : Nat)) (.bool c), binE .geq (Lt 0) (.int .i32 (128 : Nat)) (.bool d)] [] 30 46 [Lt 0] (.bool ((a && b) || c || d)) := by
    intro a b c d; cases a <;> cases b <;> cases c <;> cases d <;> (delta Sym; show _ = _; kernel_rfl)
  let _ : Ltr := ltrL [.int .i32 r]
  exact symF [.int .i32 r] 30 (ac (bl rfl rfl (xk_ge rfl) (to_flat rfl)) (ac (bl rfl rfl (xk_le rfl) (to_flat rfl)) (ac (bl rfl rfl (xk_eq rfl) (to_flat rfl)) (ac (bl rfl rfl (xk_ge rfl) (to_flat rfl)) an)))) an (.cons (.ltr rfl rfl) .nil) rfl (key _ _ _ _)
abbrev ltrO (l : List Value) (o : Nat → Nat → Obj → Prop) : Ltr := ⟨fun i => l[i]?, fun _ _ => False, o, fun _ _ _ _ => False, fun _ _ => False⟩
/-- nothing goes over but blocks -/
abbrev traO (l : List (Nat × Nat)) : Tra := ⟨[], [], [], [], l, []⟩
theorem traO_ok {L L' : Ltr} {l : List (Nat × Nat)} (h : ∀ p ∈ l, ∀ k y, L.o p.1 k y → L'.o p.2 k y) : TraOk L L' (traO l) where
  v := an
  s := an
  c := an
  p := an
  o := h
  g := an
abbrev wdIt (s : ByteArray) (p : Nat) : Ltr := ltrO [.int .i64 p, .int .i32 (Utf8.decode s p).1] fun i _ y => y = .stringIter s (bif Nat.beq i 0 then p else p + (Utf8.decode s p).2)
def wdS (inn : Bool) : St := ⟨fr 21 [(2, .bool false), (3, .bool inn), (7, .pointer (some ⟨64, 0, none⟩))], ⟨65, [(64, .opq 0)]⟩, []⟩
def wdX (o : Option Bool) : Exit := match o with
  | some _ => .exit 0
  | none => .ret
def wdE (o : Option Bool) : St := ⟨fr 21 ((2, .bool false) :: match o with | some v => [(3, .bool v)] | none => []), ⟨65, []⟩, []⟩
noncomputable def wdB : Code := inLoop (loopOf Tryz.prog 36 0)
noncomputable def wdC (o : Option Bool) : CE := ⟨.loop wdB, traO [(0, 0)], 65, [], wdS false, wdX o, wdE o⟩
theorem wd_run1 (inn : Bool) : ComG [] [nxtE 0 1 0 1] [] [(46, patP [([Lt 1], .bool true)])] 40 wdB (wdS inn) .normal (traO [(1, 0)]) 65 [] (wdS true) := by
  cases inn <;> (show _ = _; kernel_rfl)
theorem wd_run2 : ComG [binE .eql (Lt 1) (.int .i32 (32 : Nat)) (.bool true)] [nxtE 0 1 0 1] [] [(46, patP [([Lt 1], .bool false)])] 40 wdB (wdS true) .normal (traO [(1, 0)]) 65 [] (wdS false) := by
  show _ = _; kernel_rfl
theorem wd_run3 (b inn : Bool) (h : (b && inn) = false) : ComG [binE .eql (Lt 1) (.int .i32 (32 : Nat)) (.bool b)] [nxtE 0 1 0 1] [] [(46, patP [([Lt 1], .bool false)])] 40 wdB (wdS inn) .ret (traO []) 65 [] (wdE none) := by
  cases b <;> cases inn <;> first | (cases h; done) | (show _ = _; kernel_rfl)
theorem wd_run4 (inn : Bool) : ComG [] [endE 0] [] [] 40 wdB (wdS inn) (.exit 0) (traO []) 65 [] (wdE (some inn)) := by
  cases inn <;> (show _ = _; kernel_rfl)
theorem wd_run5 (o : Option Bool) : SymG [] [rngE 9 (Lt 0) 0] [wdC o] [] 40 36 [Lt 0] (.bool (o.getD false)) := by
  cases o with
  | none => delta SymG; show _ = _; kernel_rfl
  | some v => cases v <;> (delta SymG; show _ = _; kernel_rfl)
theorem wd_ce (s : ByteArray) (w : World) (Lo : Ltr) (ho : ∀ k y, Lo.o 0 k y → y = .stringIter s 0) : @CEOk Lo Tryz.prog 64 (kep w) 64 (wdC (Tbl.wd false s.data.toList)) := by
  generalize hgo : Tbl.wd false s.data.toList = o
  refine @ce_of Tryz.prog 64 (kep w) 64 Lo (Nat × Bool) (fun d => wdIt s d.1) (fun d => wdS d.2) (fun d => s.size - d.1) (fun d => Tbl.wd d.2 (s.data.toList.drop d.1) = o ∧ d.1 ≤ s.size) (wdC o) wdB rfl ?_ (0, false) ⟨hgo, Nat.zero_le _⟩ rfl (traO_ok (ac (fun k y h => ho k y h) an)) an
  rintro ⟨p, inn⟩ ⟨hd, hle⟩ ro k E a w' h
  have pe : ∀ r : Bool, Tbl.lb (Utf8.decode s p).1 = r → ∀ e ∈ [((46 : FuncId), patP [([Lt 1], .bool r)])], @PEOk (wdIt s p) Tryz.prog (kep w) 64 e := by
    intro r hr
    let _ : Ltr := wdIt s p
    exact ac (p1 rfl rfl fun w2 _ => (let_any _ w2).mono fun e w3 q => ⟨by rw [q.1, hr], q.2⟩) an
  have ne : ∀ hp : p < s.size, ∀ e ∈ [nxtE 0 1 0 1], @MEOk (wdIt s p) Tryz.prog (kep w) 64 e := by
    intro hp
    let _ : Ltr := wdIt s p
    exact ac (nxt_ok (fun k y h => h) hp rfl rfl fun k => rfl) an
  have be : ∀ b : Bool, decide ((Utf8.decode s p).1 = 32) = b → ∀ e ∈ [binE .eql (Lt 1) (.int .i32 (32 : Nat)) (.bool b)], @OEOkX (wdIt s p) Tryz.prog (kep w) e := by
    intro b hb
    let _ : Ltr := wdIt s p
    exact ac (bl rfl rfl (xk_eq hb) (to_flat rfl)).x an
  have next : ∀ inn', TraOk (wdIt s p) (wdIt s ((p + (Utf8.decode s p).2, inn') : Nat × Bool).1) (traO [(1, 0)]) := fun inn' => traO_ok (ac (fun k y h => (by have h1 : y = .stringIter s (p + (Utf8.decode s p).2) := h; exact h1)) an)
  by_cases hp : p < s.size
  · have hdr := Tbl.drop_at hp
    by_cases h1 : (s.get! p).toNat < 128
    · have hdec := Ub.decode_low s p h1
      have hb := Ub.at_get s p hp
      rw [hdr, Tbl.wd, ← hb] at hd
      have hc1 : (Utf8.decode s p).1 = (s.get! p).toNat := by rw [hdec]
      have hc2 : (Utf8.decode s p).2 = 1 := by rw [hdec]
      cases hl : Tbl.lb (s.get! p).toNat with
      | true =>
        rw [hl] at hd
        exact r_on (p + (Utf8.decode s p).2, true) (toldG (wdIt s p) an (ne hp) an (pe true (by rw [hc1, hl])) (next true) an (wd_run1 inn) h) ⟨by rw [hc2]; exact hd, by show p + _ ≤ _; omega⟩ (by show s.size - (p + _) < s.size - p; omega)
      | false =>
        rw [hl] at hd
        cases hs : (decide ((s.get! p).toNat = 32) && inn) with
        | true =>
          rw [hs] at hd
          simp only [Bool.and_eq_true] at hs
          obtain ⟨hs1, rfl⟩ := hs
          exact r_on (p + (Utf8.decode s p).2, false) (toldG (wdIt s p) (be true (by rw [hc1, hs1])) (ne hp) an (pe false (by rw [hc1, hl])) (next false) an wd_run2 h) ⟨by rw [hc2]; exact hd, by show p + _ ≤ _; omega⟩ (by show s.size - (p + _) < s.size - p; omega)
        | false =>
          rw [hs] at hd
          obtain rfl : none = o := hd
          exact r_out (by intro h; cases h) (toldG (wdIt s p) (be _ (by rw [hc1])) (ne hp) an (pe false (by rw [hc1, hl])) (traO_ok an) an (wd_run3 _ inn hs) h)
    · obtain ⟨g1, g2, g3, g4⟩ := Ub.decode_high s p hp (by omega)
      refine r_on (p + (Utf8.decode s p).2, true) (toldG (wdIt s p) an (ne hp) an (pe true (Tbl.lb_high g1)) (next true) an (wd_run1 inn) h) ⟨?_, g3⟩ (by show s.size - (p + _) < s.size - p; omega)
      rw [← hd]
      obtain ⟨n, hn⟩ : ∃ n, (Utf8.decode s p).2 = n + 1 := ⟨(Utf8.decode s p).2 - 1, by omega⟩
      show Tbl.wd true (s.data.toList.drop (p + (Utf8.decode s p).2)) = _
      rw [hn, Tbl.wd_high (n := n) (l := s.data.toList.drop p), List.drop_drop]
      · have : s.data.toList.length = s.size := rfl
        rw [List.length_drop]
        omega
      · intro j hj
        have hj2 : p + j < s.size := by omega
        have := g4 j (by omega)
        rw [Ub.at_get s _ hj2] at this
        have e : (s.data.toList.drop p)[j]! = s.data.toList[p + j]! := by
          rw [List.getElem!_eq_getElem?_getD, List.getElem!_eq_getElem?_getD, List.getElem?_drop]
        rw [e]
        exact this
  · have hd' : some inn = o := by
      rw [List.drop_eq_nil_of_le (by have : s.data.toList.length = s.size := rfl; omega)] at hd
      exact hd
    subst hd'
    refine r_out (by intro h; cases h) (toldG (wdIt s p) an ?_ an an (traO_ok an) an (wd_run4 inn) h)
    let _ : Ltr := wdIt s p
    exact ac (end_ok (fun k y h => h) hp) an
theorem word_any (s : ByteArray) (w : World) : Calls Tryz.prog 36 #[.string s] w fun e w' => e = .returned (.bool (Tbl.isW s.data.toList)) ∧ Below w.heap.size w w' := by
  let L : Ltr := ltrO [.string s] fun _ _ y => y = .stringIter s 0
  exact symGF L 40 an (ac (rng_ok (is_ltr rfl) fun k => rfl) an) (ac (wd_ce s w L fun k y h => h) an) an (.cons (.ltr rfl rfl) .nil) rfl (wd_run5 _)
end Go.Proofs.YtkhmbphcjacgnaaGreatDoor
