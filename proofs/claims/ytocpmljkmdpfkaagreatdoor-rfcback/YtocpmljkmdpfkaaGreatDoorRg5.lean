/-
  A part's value into a rule: rfc.parseValue.
-/
import Derived.Test.YtocpmljkmdpfkaaGreatDoorRg4
namespace Go.Proofs.YtocpmljkmdpfkaaGreatDoor
open Go.RowKit
namespace Rfc
/-- a rule's fields -/
structure Ru where
  f : Int
  iv : Int
  c : Int
  u : Int
  M : List Int
  D : List Int
  K : List (Int × Int)
  P : List Int
/-- a rule with a part's value; none: it can't be read -/
noncomputable def setF (p : Nat) (s : List UInt8) (r : Ru) : Option Ru := match p with
  | 0 => (pfreq s).map fun (k : Nat) => { r with f := (k : Int) }
  | 1 => (pnum s).map fun n => { r with iv := n }
  | 2 => (pnz s).map fun n => { r with c := n }
  | 3 => (pday s).map fun n => { r with u := n }
  | 4 => (plistI s).map fun l => { r with M := l }
  | 5 => (plistI s).map fun l => { r with D := l }
  | 6 => (plistN s).map fun l => { r with K := l }
  | _ => (plistI s).map fun l => { r with P := l }
end Rfc
/-- numbers in a block of the call's own, at lo or behind -/
def InI (w : World) (lo : Nat) (A : Option Addr) (L : List Int) : Prop := L.length ≤ maxLen ∧ ((A = none ∧ L = []) ∨ ∃ b, A = some ⟨b, 0, none⟩ ∧ lo ≤ b ∧ b < w.heap.size ∧ ∀ j (h : j < L.length), w.cell? ⟨b, j, none⟩ = some (.int .i64 L[j]))
def InN (w : World) (lo : Nat) (A : Option Addr) (L : List (Int × Int)) : Prop := L.length ≤ maxLen ∧ ((A = none ∧ L = []) ∨ ∃ b, A = some ⟨b, 0, none⟩ ∧ lo ≤ b ∧ b < w.heap.size ∧ ∀ j (h : j < L.length), w.cell? ⟨b, j * 2, none⟩ = some (.int .i64 L[j].1) ∧ w.cell? ⟨b, j * 2 + 1, none⟩ = some (.int .i64 L[j].2))
theorem InI.nil (w : World) (lo : Nat) : InI w lo none [] := ⟨Nat.zero_le _, .inl ⟨rfl, rfl⟩⟩
theorem InN.nil (w : World) (lo : Nat) : InN w lo none [] := ⟨Nat.zero_le _, .inl ⟨rfl, rfl⟩⟩
theorem InI.exc {w w' : World} {lo x : Nat} {A : Option Addr} {L : List Int} (h : InI w lo A L) (e : Exc w.heap.size x w w') (hx : x < lo) : InI w' lo A L := by
  refine ⟨h.1, ?_⟩
  rcases h.2 with h | ⟨b, rfl, h1, h2, h3⟩
  · exact .inl h
  · exact .inr ⟨b, rfl, h1, Nat.lt_of_lt_of_le h2 e.size, fun j hj => (e.cell (p := ⟨b, j, none⟩) h2 (show b ≠ x by omega)).trans (h3 j hj)⟩
theorem InN.exc {w w' : World} {lo x : Nat} {A : Option Addr} {L : List (Int × Int)} (h : InN w lo A L) (e : Exc w.heap.size x w w') (hx : x < lo) : InN w' lo A L := by
  refine ⟨h.1, ?_⟩
  rcases h.2 with h | ⟨b, rfl, h1, h2, h3⟩
  · exact .inl h
  · exact .inr ⟨b, rfl, h1, Nat.lt_of_lt_of_le h2 e.size, fun j hj => ⟨(e.cell (p := ⟨b, j * 2, none⟩) h2 (show b ≠ x by omega)).trans (h3 j hj).1, (e.cell (p := ⟨b, j * 2 + 1, none⟩) h2 (show b ≠ x by omega)).trans (h3 j hj).2⟩⟩
theorem InI.plain {w : World} {lo : Nat} {A : Option Addr} {L : List Int} (h : InI w lo A L) : PlainI w A L := by
  rcases h.2 with h | ⟨b, rfl, h1, h2, h3⟩
  · exact .inl h
  · exact .inr ⟨b, 0, rfl, h2, fun j hj => by rw [Nat.zero_add]; exact h3 j hj⟩
theorem InN.plain {w : World} {lo : Nat} {A : Option Addr} {L : List (Int × Int)} (h : InN w lo A L) : PlainN w A L := by
  rcases h.2 with h | ⟨b, rfl, h1, h2, h3⟩
  · exact .inl h
  · exact .inr ⟨b, 0, rfl, h2, fun j hj => by rw [Nat.zero_add]; exact h3 j hj⟩
theorem OwnI.inn' {w : World} {base lo c : Nat} {A : Option Addr} {L : List Int} (h : OwnI w base (.slice A L.length c) L) (hl : lo ≤ base) : InI w lo A L := by
  refine ⟨?_, ?_⟩
  · obtain ⟨A', c', e, h1, -, -⟩ := h.ints
    exact h1
  · rcases h.2 with ⟨e, hn⟩ | ⟨g, cap, cur, e, hb, hg, -⟩
    · obtain ⟨rfl, -, -⟩ := Value.slice.inj e
      exact .inl ⟨rfl, List.eq_nil_of_length_eq_zero hn⟩
    · obtain ⟨rfl, -, -⟩ := Value.slice.inj e
      obtain ⟨A', c', e', -, -, hi⟩ := h.ints
      obtain ⟨rfl, -, -⟩ := Value.slice.inj e'
      refine .inr ⟨g, rfl, by omega, (Array.getElem?_eq_some_iff.1 hg).1, fun j hj => ?_⟩
      obtain ⟨ad, ea, -, hc⟩ := hi j hj
      obtain rfl := Option.some.inj ea
      rw [addr_lit, Nat.zero_add] at hc
      exact hc
theorem OwnN.inn' {w : World} {base lo c : Nat} {A : Option Addr} {L : List (Int × Int)} (h : OwnN w base (.slice A L.length c) L) (hl : lo ≤ base) : InN w lo A L := by
  refine ⟨?_, ?_⟩
  · obtain ⟨A', c', e, h1, -, -⟩ := h.nths
    exact h1
  · rcases h.2 with ⟨e, hn⟩ | ⟨g, cap, cur, e, hb, hg, -⟩
    · obtain ⟨rfl, -, -⟩ := Value.slice.inj e
      exact .inl ⟨rfl, List.eq_nil_of_length_eq_zero hn⟩
    · obtain ⟨rfl, -, -⟩ := Value.slice.inj e
      obtain ⟨A', c', e', -, -, hi⟩ := h.nths
      obtain ⟨rfl, -, -⟩ := Value.slice.inj e'
      refine .inr ⟨g, rfl, by omega, (Array.getElem?_eq_some_iff.1 hg).1, fun j hj => ?_⟩
      obtain ⟨ad, ea, -, hc, hc'⟩ := hi j hj
      obtain rfl := Option.some.inj ea
      rw [addr_lit, Nat.zero_add] at hc
      rw [addr_lit, addr_lit, Nat.zero_add] at hc'
      exact ⟨hc, hc'⟩
/-- a rule lies at block rb, its lists at lo or behind -/
def RuB (w : World) (rb lo : Nat) (r : Rfc.Ru) : Prop := ∃ A1 A2 A3 A4 c1 c2 c3 c4, Blk w rb 36 #[.int .i64 r.f, .int .i64 r.iv, .int .i64 r.c, .int .i64 r.u, .slice A1 r.M.length c1, .slice A2 r.D.length c2, .slice A3 r.K.length c3, .slice A4 r.P.length c4] ∧ InI w lo A1 r.M ∧ InI w lo A2 r.D ∧ InN w lo A3 r.K ∧ InI w lo A4 r.P
theorem RuB.exc {w w' : World} {rb lo x : Nat} {r : Rfc.Ru} (h : RuB w rb lo r) (e : Exc w.heap.size x w w') (hx : x < lo) (hr : rb ≠ x) : RuB w' rb lo r := by
  obtain ⟨A1, A2, A3, A4, c1, c2, c3, c4, hB, h1, h2, h3, h4⟩ := h
  exact ⟨A1, A2, A3, A4, c1, c2, c3, c4, hB.exc e hB.lt hr, h1.exc e hx, h2.exc e hx, h3.exc e hx, h4.exc e hx⟩
section
variable {w : World} {ρ : Operand → Value} {o : Oper} {x y : Operand} {v u : Value} {n : Int} {b i : Nat} {ad : Addr}
theorem k_nil (ho : o.op = .nilCheck x) (hx : ρ x = .pointer (some ad)) : (execOp ρ o).run Tryz.prog w = .ok (.value (.pointer (some ad))) w := by
  simp only [execOp, ho, hx]
  go_simp
theorem k_storeFr {t : TypeId} {cs : Array Value} (ho : o.op = .store 31 x y) (hx : ρ x = .pointer (some ⟨b, i, none⟩)) (hy : ρ y = .int .i64 n) (hb : Blk w b t cs) (hi : i < cs.size) :
    (execOp ρ o).run Tryz.prog w = .ok .skip (w.setCell ⟨b, i, none⟩ (.int .i64 n)) := by
  have hc := hb.cell i
  have hf := hb.frozen i
  rw [Array.getElem?_eq_getElem hi] at hc
  simp only [execOp, ho, hx, hy]
  go_simp
theorem c_pFreq (ho : o.op = .call ⟨.value (.func 62), #[x], #[9]⟩) (hf : ρ (.func 62) = .func (.func 62) #[] #[]) (hx : ρ x = v) : (execOp ρ o).run Tryz.prog w = .ok (.enter 62 #[v]) w := by
  simp only [execOp, ho]
  go_simp
theorem c_pDay8 (ho : o.op = .call ⟨.value (.func 65), #[x], #[9]⟩) (hf : ρ (.func 65) = .func (.func 65) #[] #[]) (hx : ρ x = v) : (execOp ρ o).run Tryz.prog w = .ok (.enter 65 #[v]) w := by
  simp only [execOp, ho]
  go_simp
theorem c_plI (ho : o.op = .call ⟨.value (.func 66), #[x, .func 63], #[9, 112]⟩) (hf : ρ (.func 66) = .func (.func 66) #[] #[]) (hg : ρ (.func 63) = .func (.func 63) #[] #[]) (hx : ρ x = v) : (execOp ρ o).run Tryz.prog w = .ok (.enter 66 #[v, .func (.func 63) #[] #[]]) w := by
  simp only [execOp, ho]
  go_simp
theorem c_plN (ho : o.op = .call ⟨.value (.func 67), #[x, .func 68], #[9, 119]⟩) (hf : ρ (.func 67) = .func (.func 67) #[] #[]) (hg : ρ (.func 68) = .func (.func 68) #[] #[]) (hx : ρ x = v) : (execOp ρ o).run Tryz.prog w = .ok (.enter 67 #[v, .func (.func 68) #[] #[]]) w := by
  simp only [execOp, ho]
  go_simp
end
noncomputable def svBody : Code := Tryz.f30.body.getD .skip

set_option maxRecDepth 100000 in
set_option maxHeartbeats 1000000 in
theorem sv_0 (rb : Nat) (cs : Array Value) (h8 : cs.size = 8) (s : List UInt8) (w : World) (hT : Tabs w) (hB : Blk w rb 36 cs) :
    Calls Tryz.prog 30 #[.pointer (some ⟨rb, 0, none⟩), .int .i64 0, .string ⟨s.toArray⟩] w fun e w' => ∃ v, e = .returned v ∧ (v = .bool (Rfc.pfreq s).isSome ∧ Blk w' rb 36 (cs.setIfInBounds 0 (.int .i64 ((Rfc.pfreq s).getD 0 : Nat))) ∧ Exc w.heap.size rb w w') := by
  refine calls_of_wp Tryz.func30 (show Tryz.f30.body = some svBody from rfl) ?_
  generalize hAA : (Act.mk (#[.pointer (some ⟨rb, 0, none⟩), .int .i64 0, .string ⟨s.toArray⟩] ++ Array.replicate (Tryz.f30.ntmps - (#[.pointer (some ⟨rb, 0, none⟩), .int .i64 0, .string ⟨s.toArray⟩] : Array Value).size) undef) []) = a
  have hs : a.tmps.size = 89 := by rw [← hAA]; simp [Tryz.ntmps30]
  have hd : a.defers = [] := by rw [← hAA]
  have h0 : a.tmps.getD 0 undef = .pointer (some ⟨rb, 0, none⟩) := by rw [← hAA]; simp
  have h1 : a.tmps.getD 1 undef = .int .i64 0 := by rw [← hAA]; simp
  have h2 : a.tmps.getD 2 undef = .string ⟨s.toArray⟩ := by rw [← hAA]; simp
  clear hAA
  suffices hq : ∀ Q : Exit → Act → World → Prop, (∀ (a' : Act) (w' : World), (bodyPost Tryz.prog Tryz.f30 fun e w' => ∃ v, e = .returned v ∧ (v = .bool (Rfc.pfreq s).isSome ∧ Blk w' rb 36 (cs.setIfInBounds 0 (.int .i64 ((Rfc.pfreq s).getD 0 : Nat))) ∧ Exc w.heap.size rb w w')) .ret a' w' → Q .ret a' w') → svBody.wp Tryz.prog Q a w from hq _ (fun _ _ h => h)
  intro Q hfin
  unfold svBody
  conv => arg 2; whnf
  refine wp_seq ?_
  refine wp_region (show wpOps _ _ _ [0] _ _ from ?_)
  refine opL 0 6 (v := .bool false) (w' := w) (by kernel_rfl) (frZ hs) ?_ ?_
  · exact frY rfl (k_assign rfl rfl)
  refine frN3 hs hd h0 h1 h2 ?_; clear hs hd h0 h1 h2; intro a hs hd h0 h1 h2 h6
  refine wp_seq ?_
  refine wp_seq ?_
  refine wp_region (show wpOps _ _ _ [0] _ _ from ?_)
  refine opL 0 7 (v := .int .i64 0) (w' := w) (by kernel_rfl) (frZ hs) ?_ ?_
  · exact frY rfl (k_move rfl (ev_tmp h1))
  revert hs hd h0 h1 h2 h6; refine frM4 ?_; intro a hs hd h0 h1 h2 h6 h7
  refine wp_block ?_
  refine wp_seq ?_
  refine wp_region (show wpOps _ _ _ [0, 1] _ _ from ?_)
  refine opL 0 9 (v := .bool true) (w' := w) (by kernel_rfl) (frZ hs) ?_ ?_
  · exact frY rfl (o_eqP rfl (ev_tmp h7) rfl rfl)
  revert hs hd h0 h1 h2 h6 h7; refine frM5 ?_; intro a hs hd h0 h1 h2 h6 h7 h9
  refine opL 1 8 (v := .bool true) (w' := w) (by kernel_rfl) (frZ hs) ?_ ?_
  · exact frY rfl (k_assign rfl (ev_tmp h9))
  clear h9; revert hs hd h0 h1 h2 h6 h7; refine frM5 ?_; intro a hs hd h0 h1 h2 h6 h7 h8
  refine wp_cond_true (ev_tmp h8) ?_
  refine wp_region (show wpOps _ _ _ [0, 1, 2, 3, 4, 5, 6, 7, 8, 9] _ _ from ?_)
  refine opL 0 11 (v := .pointer (some ⟨rb, 0, none⟩)) (w' := w) (by kernel_rfl) (frZ hs) ?_ ?_
  · exact frY rfl (k_move rfl (ev_tmp h0))
  revert hs hd h0 h1 h2 h6 h7 h8; refine frM6 ?_; intro a hs hd h0 h1 h2 h6 h7 h8 h11
  refine opL 1 12 (v := .string ⟨s.toArray⟩) (w' := w) (by kernel_rfl) (frZ hs) ?_ ?_
  · exact frY rfl (k_move rfl (ev_tmp h2))
  revert hs hd h0 h1 h2 h6 h7 h8 h11; refine frM7 ?_; intro a hs hd h0 h1 h2 h6 h7 h8 h11 h12
  have hc := pf_any s w hT
  have hx := fun ops Q rest d a i h1 h2 h3 => opL_call (P := Tryz.prog) (ops := ops) (Q := Q) (a := a) (w := w) (rest := rest) i d h1 h2 h3 hc
  refine hx _ _ _ 13 _ 2 ?z521a ?z521b ?z521 ?z522
  case z521a => kernel_rfl
  case z521b => (rw [hs]; decide)
  case z521 => exact frY rfl (c_pFreq rfl rfl (ev_tmp h12))
  case z522 =>
  rintro _ w1 a ⟨rfl, l1⟩ F0
  replace hs := F0.z.trans hs
  replace hd := F0.e.trans hd
  replace h0 := (F0.n 0 (by decide)).trans h0
  replace h1 := (F0.n 1 (by decide)).trans h1
  replace h2 := (F0.n 2 (by decide)).trans h2
  replace h6 := (F0.n 6 (by decide)).trans h6
  replace h7 := (F0.n 7 (by decide)).trans h7
  replace h8 := (F0.n 8 (by decide)).trans h8
  replace h11 := (F0.n 11 (by decide)).trans h11
  clear h12
  have h13 := F0.s
  clear F0
  clear hx hc
  have B1 := hB.below l1 hB.lt
  refine opL 3 10 (v := .tuple #[.int .i64 ((Rfc.pfreq s).getD 0 : Nat), .bool (Rfc.pfreq s).isSome]) (w' := w1) (by kernel_rfl) (frZ hs) ?_ ?_
  · exact frY rfl (k_move rfl (ev_tmp h13))
  refine frN7 hs hd h0 h1 h2 h6 h7 h8 h11 ?_; clear hs hd h0 h1 h2 h6 h7 h8 h11 h13; intro a hs hd h0 h1 h2 h6 h7 h8 h11 h10
  refine opL 4 14 (v := .int .i64 ((Rfc.pfreq s).getD 0 : Nat)) (w' := w1) (by kernel_rfl) (frZ hs) ?_ ?_
  · exact frY rfl (k_extract rfl (ev_tmp h10) rfl)
  revert hs hd h0 h1 h2 h6 h7 h8 h11 h10; refine frM8 ?_; intro a hs hd h0 h1 h2 h6 h7 h8 h11 h10 h14
  refine opL 5 15 (v := .bool (Rfc.pfreq s).isSome) (w' := w1) (by kernel_rfl) (frZ hs) ?_ ?_
  · exact frY rfl (k_extract rfl (ev_tmp h10) rfl)
  clear h10; revert hs hd h0 h1 h2 h6 h7 h8 h11 h14; refine frM8 ?_; intro a hs hd h0 h1 h2 h6 h7 h8 h11 h14 h15
  refine opL 6 16 (v := .pointer (some ⟨rb, 0, none⟩)) (w' := w1) (by kernel_rfl) (frZ hs) ?_ ?_
  · exact frY rfl (k_nil rfl (ev_tmp h11))
  clear h11; revert hs hd h0 h1 h2 h6 h7 h8 h14 h15; refine frM8 ?_; intro a hs hd h0 h1 h2 h6 h7 h8 h14 h15 h16
  refine opL 7 17 (v := .pointer (some ⟨rb, 0, none⟩)) (w' := w1) (by kernel_rfl) (frZ hs) ?_ ?_
  · exact frY rfl (k_field0 rfl (ev_tmp h16))
  clear h16; revert hs hd h0 h1 h2 h6 h7 h8 h14 h15; refine frM8 ?_; intro a hs hd h0 h1 h2 h6 h7 h8 h14 h15 h17
  refine opL_store 8 (w' := (w1.setCell ⟨rb, 0, none⟩ (.int .i64 ((Rfc.pfreq s).getD 0 : Nat)))) (by kernel_rfl) ?_ ?_
  · exact frY rfl (k_storeFr rfl (ev_tmp h17) (ev_tmp h14) B1 (by omega))
  clear h17
  clear h14
  obtain ⟨w2, hw2⟩ : ∃ wn, wn = w1.setCell ⟨rb, 0, none⟩ (.int .i64 ((Rfc.pfreq s).getD 0 : Nat)) := ⟨_, rfl⟩
  rw [← hw2]
  have B2 : Blk w2 rb 36 (cs.setIfInBounds 0 (.int .i64 ((Rfc.pfreq s).getD 0 : Nat))) := by rw [hw2]; exact B1.set 0 _
  have e2 : ∀ B, Exc B rb w1 w2 := by rw [hw2]; exact exc_set w1 rb 0 _
  clear hw2
  have ee : Exc w.heap.size rb w w2 := (Exc.of l1).trans (e2 _)
  refine opL 9 6 (v := .bool (Rfc.pfreq s).isSome) (w' := w2) (by kernel_rfl) (frZ hs) ?_ ?_
  · exact frY rfl (k_assign rfl (ev_tmp h15))
  refine frN5 hs hd h0 h1 h2 h7 h8 ?_; clear hs hd h0 h1 h2 h7 h8 h6 h15; intro a hs hd h0 h1 h2 h7 h8 h6
  refine wp_seq ?_
  refine wp_region (show wpOps _ _ _ [0, 1] _ _ from ?_)
  refine opL 0 88 (v := .bool (Rfc.pfreq s).isSome) (w' := w2) (by kernel_rfl) (frZ hs) ?_ ?_
  · exact frY rfl (k_move rfl (ev_tmp h6))
  revert hs hd h0 h1 h2 h7 h8 h6; refine frM6 ?_; intro a hs hd h0 h1 h2 h7 h8 h6 h88
  refine opL 1 6 (v := .bool (Rfc.pfreq s).isSome) (w' := w2) (by kernel_rfl) (frZ hs) ?_ ?_
  · exact frY rfl (k_assign rfl (ev_tmp h88))
  clear h6 h88; revert hs hd h0 h1 h2 h7 h8; refine frM5 ?_; intro a hs hd h0 h1 h2 h7 h8 h6
  refine wp_ret ?_
  refine hfin a _ ?_
  exact ⟨hd, _, results_tmp rfl _ _ _, _, rfl, h6, B2, ee⟩

set_option maxRecDepth 100000 in
set_option maxHeartbeats 1000000 in
theorem sv_1 (rb : Nat) (cs : Array Value) (h8 : cs.size = 8) (s : List UInt8) (w : World) (hT : Tabs w) (hl : s.length ≤ 100000) (hB : Blk w rb 36 cs) :
    Calls Tryz.prog 30 #[.pointer (some ⟨rb, 0, none⟩), .int .i64 1, .string ⟨s.toArray⟩] w fun e w' => ∃ v, e = .returned v ∧ (v = .bool (Rfc.pnum s).isSome ∧ Blk w' rb 36 (cs.setIfInBounds 1 (.int .i64 ((Rfc.pnum s).getD 0))) ∧ Exc w.heap.size rb w w') := by
  refine calls_of_wp Tryz.func30 (show Tryz.f30.body = some svBody from rfl) ?_
  generalize hAA : (Act.mk (#[.pointer (some ⟨rb, 0, none⟩), .int .i64 1, .string ⟨s.toArray⟩] ++ Array.replicate (Tryz.f30.ntmps - (#[.pointer (some ⟨rb, 0, none⟩), .int .i64 1, .string ⟨s.toArray⟩] : Array Value).size) undef) []) = a
  have hs : a.tmps.size = 89 := by rw [← hAA]; simp [Tryz.ntmps30]
  have hd : a.defers = [] := by rw [← hAA]
  have h0 : a.tmps.getD 0 undef = .pointer (some ⟨rb, 0, none⟩) := by rw [← hAA]; simp
  have h1 : a.tmps.getD 1 undef = .int .i64 1 := by rw [← hAA]; simp
  have h2 : a.tmps.getD 2 undef = .string ⟨s.toArray⟩ := by rw [← hAA]; simp
  clear hAA
  suffices hq : ∀ Q : Exit → Act → World → Prop, (∀ (a' : Act) (w' : World), (bodyPost Tryz.prog Tryz.f30 fun e w' => ∃ v, e = .returned v ∧ (v = .bool (Rfc.pnum s).isSome ∧ Blk w' rb 36 (cs.setIfInBounds 1 (.int .i64 ((Rfc.pnum s).getD 0))) ∧ Exc w.heap.size rb w w')) .ret a' w' → Q .ret a' w') → svBody.wp Tryz.prog Q a w from hq _ (fun _ _ h => h)
  intro Q hfin
  unfold svBody
  conv => arg 2; whnf
  refine wp_seq ?_
  refine wp_region (show wpOps _ _ _ [0] _ _ from ?_)
  refine opL 0 6 (v := .bool false) (w' := w) (by kernel_rfl) (frZ hs) ?_ ?_
  · exact frY rfl (k_assign rfl rfl)
  refine frN3 hs hd h0 h1 h2 ?_; clear hs hd h0 h1 h2; intro a hs hd h0 h1 h2 h6
  refine wp_seq ?_
  refine wp_seq ?_
  refine wp_region (show wpOps _ _ _ [0] _ _ from ?_)
  refine opL 0 7 (v := .int .i64 1) (w' := w) (by kernel_rfl) (frZ hs) ?_ ?_
  · exact frY rfl (k_move rfl (ev_tmp h1))
  revert hs hd h0 h1 h2 h6; refine frM4 ?_; intro a hs hd h0 h1 h2 h6 h7
  refine wp_block ?_
  refine wp_seq ?_
  refine wp_region (show wpOps _ _ _ [0, 1] _ _ from ?_)
  refine opL 0 9 (v := .bool false) (w' := w) (by kernel_rfl) (frZ hs) ?_ ?_
  · exact frY rfl (o_eqP rfl (ev_tmp h7) rfl rfl)
  revert hs hd h0 h1 h2 h6 h7; refine frM5 ?_; intro a hs hd h0 h1 h2 h6 h7 h9
  refine opL 1 8 (v := .bool false) (w' := w) (by kernel_rfl) (frZ hs) ?_ ?_
  · exact frY rfl (k_assign rfl (ev_tmp h9))
  clear h9; revert hs hd h0 h1 h2 h6 h7; refine frM5 ?_; intro a hs hd h0 h1 h2 h6 h7 h8
  refine wp_cond_false (ev_tmp h8) ?_
  refine wp_seq ?_
  refine wp_region (show wpOps _ _ _ [0, 1] _ _ from ?_)
  refine opL 0 19 (v := .bool true) (w' := w) (by kernel_rfl) (frZ hs) ?_ ?_
  · exact frY rfl (o_eqP rfl (ev_tmp h7) rfl rfl)
  revert hs hd h0 h1 h2 h6 h7 h8; refine frM6 ?_; intro a hs hd h0 h1 h2 h6 h7 h8 h19
  refine opL 1 18 (v := .bool true) (w' := w) (by kernel_rfl) (frZ hs) ?_ ?_
  · exact frY rfl (k_assign rfl (ev_tmp h19))
  clear h19; revert hs hd h0 h1 h2 h6 h7 h8; refine frM6 ?_; intro a hs hd h0 h1 h2 h6 h7 h8 h18
  refine wp_cond_true (ev_tmp h18) ?_
  refine wp_region (show wpOps _ _ _ [0, 1, 2, 3, 4, 5, 6, 7, 8, 9] _ _ from ?_)
  refine opL 0 21 (v := .pointer (some ⟨rb, 0, none⟩)) (w' := w) (by kernel_rfl) (frZ hs) ?_ ?_
  · exact frY rfl (k_move rfl (ev_tmp h0))
  revert hs hd h0 h1 h2 h6 h7 h8 h18; refine frM7 ?_; intro a hs hd h0 h1 h2 h6 h7 h8 h18 h21
  refine opL 1 22 (v := .string ⟨s.toArray⟩) (w' := w) (by kernel_rfl) (frZ hs) ?_ ?_
  · exact frY rfl (k_move rfl (ev_tmp h2))
  revert hs hd h0 h1 h2 h6 h7 h8 h18 h21; refine frM8 ?_; intro a hs hd h0 h1 h2 h6 h7 h8 h18 h21 h22
  have hc := pn_any s w hT hl
  have hx := fun ops Q rest d a i h1 h2 h3 => opL_call (P := Tryz.prog) (ops := ops) (Q := Q) (a := a) (w := w) (rest := rest) i d h1 h2 h3 hc
  refine hx _ _ _ 23 _ 2 ?z557a ?z557b ?z557 ?z558
  case z557a => kernel_rfl
  case z557b => (rw [hs]; decide)
  case z557 => exact frY rfl (c_pNum rfl rfl (ev_tmp h22))
  case z558 =>
  rintro _ w1 a ⟨rfl, l1⟩ F0
  replace hs := F0.z.trans hs
  replace hd := F0.e.trans hd
  replace h0 := (F0.n 0 (by decide)).trans h0
  replace h1 := (F0.n 1 (by decide)).trans h1
  replace h2 := (F0.n 2 (by decide)).trans h2
  replace h6 := (F0.n 6 (by decide)).trans h6
  replace h7 := (F0.n 7 (by decide)).trans h7
  replace h8 := (F0.n 8 (by decide)).trans h8
  replace h18 := (F0.n 18 (by decide)).trans h18
  replace h21 := (F0.n 21 (by decide)).trans h21
  clear h22
  have h23 := F0.s
  clear F0
  clear hx hc
  have B1 := hB.below l1 hB.lt
  refine opL 3 20 (v := .tuple #[.int .i64 ((Rfc.pnum s).getD 0), .bool (Rfc.pnum s).isSome]) (w' := w1) (by kernel_rfl) (frZ hs) ?_ ?_
  · exact frY rfl (k_move rfl (ev_tmp h23))
  refine frN8 hs hd h0 h1 h2 h6 h7 h8 h18 h21 ?_; clear hs hd h0 h1 h2 h6 h7 h8 h18 h21 h23; intro a hs hd h0 h1 h2 h6 h7 h8 h18 h21 h20
  refine opL 4 24 (v := .int .i64 ((Rfc.pnum s).getD 0)) (w' := w1) (by kernel_rfl) (frZ hs) ?_ ?_
  · exact frY rfl (k_extract rfl (ev_tmp h20) rfl)
  revert hs hd h0 h1 h2 h6 h7 h8 h18 h21 h20; refine frM9 ?_; intro a hs hd h0 h1 h2 h6 h7 h8 h18 h21 h20 h24
  refine opL 5 25 (v := .bool (Rfc.pnum s).isSome) (w' := w1) (by kernel_rfl) (frZ hs) ?_ ?_
  · exact frY rfl (k_extract rfl (ev_tmp h20) rfl)
  clear h20; revert hs hd h0 h1 h2 h6 h7 h8 h18 h21 h24; refine frM9 ?_; intro a hs hd h0 h1 h2 h6 h7 h8 h18 h21 h24 h25
  refine opL 6 26 (v := .pointer (some ⟨rb, 0, none⟩)) (w' := w1) (by kernel_rfl) (frZ hs) ?_ ?_
  · exact frY rfl (k_nil rfl (ev_tmp h21))
  clear h21; revert hs hd h0 h1 h2 h6 h7 h8 h18 h24 h25; refine frM9 ?_; intro a hs hd h0 h1 h2 h6 h7 h8 h18 h24 h25 h26
  refine opL 7 27 (v := .pointer (some ⟨rb, 1, none⟩)) (w' := w1) (by kernel_rfl) (frZ hs) ?_ ?_
  · exact frY rfl (k_field1 rfl (ev_tmp h26))
  clear h26; revert hs hd h0 h1 h2 h6 h7 h8 h18 h24 h25; refine frM9 ?_; intro a hs hd h0 h1 h2 h6 h7 h8 h18 h24 h25 h27
  refine opL_store 8 (w' := (w1.setCell ⟨rb, 1, none⟩ (.int .i64 ((Rfc.pnum s).getD 0)))) (by kernel_rfl) ?_ ?_
  · exact frY rfl (k_storeI rfl (ev_tmp h27) (ev_tmp h24) B1 (by omega))
  clear h24
  clear h27
  obtain ⟨w2, hw2⟩ : ∃ wn, wn = w1.setCell ⟨rb, 1, none⟩ (.int .i64 ((Rfc.pnum s).getD 0)) := ⟨_, rfl⟩
  rw [← hw2]
  have B2 : Blk w2 rb 36 (cs.setIfInBounds 1 (.int .i64 ((Rfc.pnum s).getD 0))) := by rw [hw2]; exact B1.set 1 _
  have e2 : ∀ B, Exc B rb w1 w2 := by rw [hw2]; exact exc_set w1 rb 1 _
  clear hw2
  have ee : Exc w.heap.size rb w w2 := (Exc.of l1).trans (e2 _)
  refine opL 9 6 (v := .bool (Rfc.pnum s).isSome) (w' := w2) (by kernel_rfl) (frZ hs) ?_ ?_
  · exact frY rfl (k_assign rfl (ev_tmp h25))
  refine frN6 hs hd h0 h1 h2 h7 h8 h18 ?_; clear hs hd h0 h1 h2 h7 h8 h18 h6 h25; intro a hs hd h0 h1 h2 h7 h8 h18 h6
  refine wp_seq ?_
  refine wp_region (show wpOps _ _ _ [0, 1] _ _ from ?_)
  refine opL 0 88 (v := .bool (Rfc.pnum s).isSome) (w' := w2) (by kernel_rfl) (frZ hs) ?_ ?_
  · exact frY rfl (k_move rfl (ev_tmp h6))
  revert hs hd h0 h1 h2 h7 h8 h18 h6; refine frM7 ?_; intro a hs hd h0 h1 h2 h7 h8 h18 h6 h88
  refine opL 1 6 (v := .bool (Rfc.pnum s).isSome) (w' := w2) (by kernel_rfl) (frZ hs) ?_ ?_
  · exact frY rfl (k_assign rfl (ev_tmp h88))
  clear h6 h88; revert hs hd h0 h1 h2 h7 h8 h18; refine frM6 ?_; intro a hs hd h0 h1 h2 h7 h8 h18 h6
  refine wp_ret ?_
  refine hfin a _ ?_
  exact ⟨hd, _, results_tmp rfl _ _ _, _, rfl, h6, B2, ee⟩

set_option maxRecDepth 100000 in
set_option maxHeartbeats 1000000 in
theorem sv_2 (rb : Nat) (cs : Array Value) (h8 : cs.size = 8) (s : List UInt8) (w : World) (hT : Tabs w) (hl : s.length ≤ 100000) (hB : Blk w rb 36 cs) :
    Calls Tryz.prog 30 #[.pointer (some ⟨rb, 0, none⟩), .int .i64 2, .string ⟨s.toArray⟩] w fun e w' => ∃ v, e = .returned v ∧ (v = .bool (Rfc.pnz s).isSome ∧ Blk w' rb 36 (cs.setIfInBounds 2 (.int .i64 ((Rfc.pnz s).getD 0))) ∧ Exc w.heap.size rb w w') := by
  refine calls_of_wp Tryz.func30 (show Tryz.f30.body = some svBody from rfl) ?_
  generalize hAA : (Act.mk (#[.pointer (some ⟨rb, 0, none⟩), .int .i64 2, .string ⟨s.toArray⟩] ++ Array.replicate (Tryz.f30.ntmps - (#[.pointer (some ⟨rb, 0, none⟩), .int .i64 2, .string ⟨s.toArray⟩] : Array Value).size) undef) []) = a
  have hs : a.tmps.size = 89 := by rw [← hAA]; simp [Tryz.ntmps30]
  have hd : a.defers = [] := by rw [← hAA]
  have h0 : a.tmps.getD 0 undef = .pointer (some ⟨rb, 0, none⟩) := by rw [← hAA]; simp
  have h1 : a.tmps.getD 1 undef = .int .i64 2 := by rw [← hAA]; simp
  have h2 : a.tmps.getD 2 undef = .string ⟨s.toArray⟩ := by rw [← hAA]; simp
  clear hAA
  suffices hq : ∀ Q : Exit → Act → World → Prop, (∀ (a' : Act) (w' : World), (bodyPost Tryz.prog Tryz.f30 fun e w' => ∃ v, e = .returned v ∧ (v = .bool (Rfc.pnz s).isSome ∧ Blk w' rb 36 (cs.setIfInBounds 2 (.int .i64 ((Rfc.pnz s).getD 0))) ∧ Exc w.heap.size rb w w')) .ret a' w' → Q .ret a' w') → svBody.wp Tryz.prog Q a w from hq _ (fun _ _ h => h)
  intro Q hfin
  unfold svBody
  conv => arg 2; whnf
  refine wp_seq ?_
  refine wp_region (show wpOps _ _ _ [0] _ _ from ?_)
  refine opL 0 6 (v := .bool false) (w' := w) (by kernel_rfl) (frZ hs) ?_ ?_
  · exact frY rfl (k_assign rfl rfl)
  refine frN3 hs hd h0 h1 h2 ?_; clear hs hd h0 h1 h2; intro a hs hd h0 h1 h2 h6
  refine wp_seq ?_
  refine wp_seq ?_
  refine wp_region (show wpOps _ _ _ [0] _ _ from ?_)
  refine opL 0 7 (v := .int .i64 2) (w' := w) (by kernel_rfl) (frZ hs) ?_ ?_
  · exact frY rfl (k_move rfl (ev_tmp h1))
  revert hs hd h0 h1 h2 h6; refine frM4 ?_; intro a hs hd h0 h1 h2 h6 h7
  refine wp_block ?_
  refine wp_seq ?_
  refine wp_region (show wpOps _ _ _ [0, 1] _ _ from ?_)
  refine opL 0 9 (v := .bool false) (w' := w) (by kernel_rfl) (frZ hs) ?_ ?_
  · exact frY rfl (o_eqP rfl (ev_tmp h7) rfl rfl)
  revert hs hd h0 h1 h2 h6 h7; refine frM5 ?_; intro a hs hd h0 h1 h2 h6 h7 h9
  refine opL 1 8 (v := .bool false) (w' := w) (by kernel_rfl) (frZ hs) ?_ ?_
  · exact frY rfl (k_assign rfl (ev_tmp h9))
  clear h9; revert hs hd h0 h1 h2 h6 h7; refine frM5 ?_; intro a hs hd h0 h1 h2 h6 h7 h8
  refine wp_cond_false (ev_tmp h8) ?_
  refine wp_seq ?_
  refine wp_region (show wpOps _ _ _ [0, 1] _ _ from ?_)
  refine opL 0 19 (v := .bool false) (w' := w) (by kernel_rfl) (frZ hs) ?_ ?_
  · exact frY rfl (o_eqP rfl (ev_tmp h7) rfl rfl)
  revert hs hd h0 h1 h2 h6 h7 h8; refine frM6 ?_; intro a hs hd h0 h1 h2 h6 h7 h8 h19
  refine opL 1 18 (v := .bool false) (w' := w) (by kernel_rfl) (frZ hs) ?_ ?_
  · exact frY rfl (k_assign rfl (ev_tmp h19))
  clear h19; revert hs hd h0 h1 h2 h6 h7 h8; refine frM6 ?_; intro a hs hd h0 h1 h2 h6 h7 h8 h18
  refine wp_cond_false (ev_tmp h18) ?_
  refine wp_seq ?_
  refine wp_region (show wpOps _ _ _ [0, 1] _ _ from ?_)
  refine opL 0 29 (v := .bool true) (w' := w) (by kernel_rfl) (frZ hs) ?_ ?_
  · exact frY rfl (o_eqP rfl (ev_tmp h7) rfl rfl)
  revert hs hd h0 h1 h2 h6 h7 h8 h18; refine frM7 ?_; intro a hs hd h0 h1 h2 h6 h7 h8 h18 h29
  refine opL 1 28 (v := .bool true) (w' := w) (by kernel_rfl) (frZ hs) ?_ ?_
  · exact frY rfl (k_assign rfl (ev_tmp h29))
  clear h29; revert hs hd h0 h1 h2 h6 h7 h8 h18; refine frM7 ?_; intro a hs hd h0 h1 h2 h6 h7 h8 h18 h28
  refine wp_cond_true (ev_tmp h28) ?_
  refine wp_region (show wpOps _ _ _ [0, 1, 2, 3, 4, 5, 6, 7, 8, 9] _ _ from ?_)
  refine opL 0 31 (v := .pointer (some ⟨rb, 0, none⟩)) (w' := w) (by kernel_rfl) (frZ hs) ?_ ?_
  · exact frY rfl (k_move rfl (ev_tmp h0))
  revert hs hd h0 h1 h2 h6 h7 h8 h18 h28; refine frM8 ?_; intro a hs hd h0 h1 h2 h6 h7 h8 h18 h28 h31
  refine opL 1 32 (v := .string ⟨s.toArray⟩) (w' := w) (by kernel_rfl) (frZ hs) ?_ ?_
  · exact frY rfl (k_move rfl (ev_tmp h2))
  revert hs hd h0 h1 h2 h6 h7 h8 h18 h28 h31; refine frM9 ?_; intro a hs hd h0 h1 h2 h6 h7 h8 h18 h28 h31 h32
  have hc := pz_any s w hT hl
  have hx := fun ops Q rest d a i h1 h2 h3 => opL_call (P := Tryz.prog) (ops := ops) (Q := Q) (a := a) (w := w) (rest := rest) i d h1 h2 h3 hc
  refine hx _ _ _ 33 _ 2 ?z597a ?z597b ?z597 ?z598
  case z597a => kernel_rfl
  case z597b => (rw [hs]; decide)
  case z597 => exact frY rfl (c_pNz rfl rfl (ev_tmp h32))
  case z598 =>
  rintro _ w1 a ⟨rfl, l1⟩ F0
  replace hs := F0.z.trans hs
  replace hd := F0.e.trans hd
  replace h0 := (F0.n 0 (by decide)).trans h0
  replace h1 := (F0.n 1 (by decide)).trans h1
  replace h2 := (F0.n 2 (by decide)).trans h2
  replace h6 := (F0.n 6 (by decide)).trans h6
  replace h7 := (F0.n 7 (by decide)).trans h7
  replace h8 := (F0.n 8 (by decide)).trans h8
  replace h18 := (F0.n 18 (by decide)).trans h18
  replace h28 := (F0.n 28 (by decide)).trans h28
  replace h31 := (F0.n 31 (by decide)).trans h31
  clear h32
  have h33 := F0.s
  clear F0
  clear hx hc
  have B1 := hB.below l1 hB.lt
  refine opL 3 30 (v := .tuple #[.int .i64 ((Rfc.pnz s).getD 0), .bool (Rfc.pnz s).isSome]) (w' := w1) (by kernel_rfl) (frZ hs) ?_ ?_
  · exact frY rfl (k_move rfl (ev_tmp h33))
  refine frN9 hs hd h0 h1 h2 h6 h7 h8 h18 h28 h31 ?_; clear hs hd h0 h1 h2 h6 h7 h8 h18 h28 h31 h33; intro a hs hd h0 h1 h2 h6 h7 h8 h18 h28 h31 h30
  refine opL 4 34 (v := .int .i64 ((Rfc.pnz s).getD 0)) (w' := w1) (by kernel_rfl) (frZ hs) ?_ ?_
  · exact frY rfl (k_extract rfl (ev_tmp h30) rfl)
  revert hs hd h0 h1 h2 h6 h7 h8 h18 h28 h31 h30; refine frM10 ?_; intro a hs hd h0 h1 h2 h6 h7 h8 h18 h28 h31 h30 h34
  refine opL 5 35 (v := .bool (Rfc.pnz s).isSome) (w' := w1) (by kernel_rfl) (frZ hs) ?_ ?_
  · exact frY rfl (k_extract rfl (ev_tmp h30) rfl)
  clear h30; revert hs hd h0 h1 h2 h6 h7 h8 h18 h28 h31 h34; refine frM10 ?_; intro a hs hd h0 h1 h2 h6 h7 h8 h18 h28 h31 h34 h35
  refine opL 6 36 (v := .pointer (some ⟨rb, 0, none⟩)) (w' := w1) (by kernel_rfl) (frZ hs) ?_ ?_
  · exact frY rfl (k_nil rfl (ev_tmp h31))
  clear h31; revert hs hd h0 h1 h2 h6 h7 h8 h18 h28 h34 h35; refine frM10 ?_; intro a hs hd h0 h1 h2 h6 h7 h8 h18 h28 h34 h35 h36
  refine opL 7 37 (v := .pointer (some ⟨rb, 2, none⟩)) (w' := w1) (by kernel_rfl) (frZ hs) ?_ ?_
  · exact frY rfl (k_field2 rfl (ev_tmp h36))
  clear h36; revert hs hd h0 h1 h2 h6 h7 h8 h18 h28 h34 h35; refine frM10 ?_; intro a hs hd h0 h1 h2 h6 h7 h8 h18 h28 h34 h35 h37
  refine opL_store 8 (w' := (w1.setCell ⟨rb, 2, none⟩ (.int .i64 ((Rfc.pnz s).getD 0)))) (by kernel_rfl) ?_ ?_
  · exact frY rfl (k_storeI rfl (ev_tmp h37) (ev_tmp h34) B1 (by omega))
  clear h34
  clear h37
  obtain ⟨w2, hw2⟩ : ∃ wn, wn = w1.setCell ⟨rb, 2, none⟩ (.int .i64 ((Rfc.pnz s).getD 0)) := ⟨_, rfl⟩
  rw [← hw2]
  have B2 : Blk w2 rb 36 (cs.setIfInBounds 2 (.int .i64 ((Rfc.pnz s).getD 0))) := by rw [hw2]; exact B1.set 2 _
  have e2 : ∀ B, Exc B rb w1 w2 := by rw [hw2]; exact exc_set w1 rb 2 _
  clear hw2
  have ee : Exc w.heap.size rb w w2 := (Exc.of l1).trans (e2 _)
  refine opL 9 6 (v := .bool (Rfc.pnz s).isSome) (w' := w2) (by kernel_rfl) (frZ hs) ?_ ?_
  · exact frY rfl (k_assign rfl (ev_tmp h35))
  refine frN7 hs hd h0 h1 h2 h7 h8 h18 h28 ?_; clear hs hd h0 h1 h2 h7 h8 h18 h28 h6 h35; intro a hs hd h0 h1 h2 h7 h8 h18 h28 h6
  refine wp_seq ?_
  refine wp_region (show wpOps _ _ _ [0, 1] _ _ from ?_)
  refine opL 0 88 (v := .bool (Rfc.pnz s).isSome) (w' := w2) (by kernel_rfl) (frZ hs) ?_ ?_
  · exact frY rfl (k_move rfl (ev_tmp h6))
  revert hs hd h0 h1 h2 h7 h8 h18 h28 h6; refine frM8 ?_; intro a hs hd h0 h1 h2 h7 h8 h18 h28 h6 h88
  refine opL 1 6 (v := .bool (Rfc.pnz s).isSome) (w' := w2) (by kernel_rfl) (frZ hs) ?_ ?_
  · exact frY rfl (k_assign rfl (ev_tmp h88))
  clear h6 h88; revert hs hd h0 h1 h2 h7 h8 h18 h28; refine frM7 ?_; intro a hs hd h0 h1 h2 h7 h8 h18 h28 h6
  refine wp_ret ?_
  refine hfin a _ ?_
  exact ⟨hd, _, results_tmp rfl _ _ _, _, rfl, h6, B2, ee⟩

set_option maxRecDepth 100000 in
set_option maxHeartbeats 1000000 in
theorem sv_3 (rb : Nat) (cs : Array Value) (h8 : cs.size = 8) (s : List UInt8) (w : World) (hT : Tabs w) (hB : Blk w rb 36 cs) :
    Calls Tryz.prog 30 #[.pointer (some ⟨rb, 0, none⟩), .int .i64 3, .string ⟨s.toArray⟩] w fun e w' => ∃ v, e = .returned v ∧ (v = .bool (Rfc.pday s).isSome ∧ Blk w' rb 36 (cs.setIfInBounds 3 (.int .i64 ((Rfc.pday s).getD 0))) ∧ Exc w.heap.size rb w w') := by
  refine calls_of_wp Tryz.func30 (show Tryz.f30.body = some svBody from rfl) ?_
  generalize hAA : (Act.mk (#[.pointer (some ⟨rb, 0, none⟩), .int .i64 3, .string ⟨s.toArray⟩] ++ Array.replicate (Tryz.f30.ntmps - (#[.pointer (some ⟨rb, 0, none⟩), .int .i64 3, .string ⟨s.toArray⟩] : Array Value).size) undef) []) = a
  have hs : a.tmps.size = 89 := by rw [← hAA]; simp [Tryz.ntmps30]
  have hd : a.defers = [] := by rw [← hAA]
  have h0 : a.tmps.getD 0 undef = .pointer (some ⟨rb, 0, none⟩) := by rw [← hAA]; simp
  have h1 : a.tmps.getD 1 undef = .int .i64 3 := by rw [← hAA]; simp
  have h2 : a.tmps.getD 2 undef = .string ⟨s.toArray⟩ := by rw [← hAA]; simp
  clear hAA
  suffices hq : ∀ Q : Exit → Act → World → Prop, (∀ (a' : Act) (w' : World), (bodyPost Tryz.prog Tryz.f30 fun e w' => ∃ v, e = .returned v ∧ (v = .bool (Rfc.pday s).isSome ∧ Blk w' rb 36 (cs.setIfInBounds 3 (.int .i64 ((Rfc.pday s).getD 0))) ∧ Exc w.heap.size rb w w')) .ret a' w' → Q .ret a' w') → svBody.wp Tryz.prog Q a w from hq _ (fun _ _ h => h)
  intro Q hfin
  unfold svBody
  conv => arg 2; whnf
  refine wp_seq ?_
  refine wp_region (show wpOps _ _ _ [0] _ _ from ?_)
  refine opL 0 6 (v := .bool false) (w' := w) (by kernel_rfl) (frZ hs) ?_ ?_
  · exact frY rfl (k_assign rfl rfl)
  refine frN3 hs hd h0 h1 h2 ?_; clear hs hd h0 h1 h2; intro a hs hd h0 h1 h2 h6
  refine wp_seq ?_
  refine wp_seq ?_
  refine wp_region (show wpOps _ _ _ [0] _ _ from ?_)
  refine opL 0 7 (v := .int .i64 3) (w' := w) (by kernel_rfl) (frZ hs) ?_ ?_
  · exact frY rfl (k_move rfl (ev_tmp h1))
  revert hs hd h0 h1 h2 h6; refine frM4 ?_; intro a hs hd h0 h1 h2 h6 h7
  refine wp_block ?_
  refine wp_seq ?_
  refine wp_region (show wpOps _ _ _ [0, 1] _ _ from ?_)
  refine opL 0 9 (v := .bool false) (w' := w) (by kernel_rfl) (frZ hs) ?_ ?_
  · exact frY rfl (o_eqP rfl (ev_tmp h7) rfl rfl)
  revert hs hd h0 h1 h2 h6 h7; refine frM5 ?_; intro a hs hd h0 h1 h2 h6 h7 h9
  refine opL 1 8 (v := .bool false) (w' := w) (by kernel_rfl) (frZ hs) ?_ ?_
  · exact frY rfl (k_assign rfl (ev_tmp h9))
  clear h9; revert hs hd h0 h1 h2 h6 h7; refine frM5 ?_; intro a hs hd h0 h1 h2 h6 h7 h8
  refine wp_cond_false (ev_tmp h8) ?_
  refine wp_seq ?_
  refine wp_region (show wpOps _ _ _ [0, 1] _ _ from ?_)
  refine opL 0 19 (v := .bool false) (w' := w) (by kernel_rfl) (frZ hs) ?_ ?_
  · exact frY rfl (o_eqP rfl (ev_tmp h7) rfl rfl)
  revert hs hd h0 h1 h2 h6 h7 h8; refine frM6 ?_; intro a hs hd h0 h1 h2 h6 h7 h8 h19
  refine opL 1 18 (v := .bool false) (w' := w) (by kernel_rfl) (frZ hs) ?_ ?_
  · exact frY rfl (k_assign rfl (ev_tmp h19))
  clear h19; revert hs hd h0 h1 h2 h6 h7 h8; refine frM6 ?_; intro a hs hd h0 h1 h2 h6 h7 h8 h18
  refine wp_cond_false (ev_tmp h18) ?_
  refine wp_seq ?_
  refine wp_region (show wpOps _ _ _ [0, 1] _ _ from ?_)
  refine opL 0 29 (v := .bool false) (w' := w) (by kernel_rfl) (frZ hs) ?_ ?_
  · exact frY rfl (o_eqP rfl (ev_tmp h7) rfl rfl)
  revert hs hd h0 h1 h2 h6 h7 h8 h18; refine frM7 ?_; intro a hs hd h0 h1 h2 h6 h7 h8 h18 h29
  refine opL 1 28 (v := .bool false) (w' := w) (by kernel_rfl) (frZ hs) ?_ ?_
  · exact frY rfl (k_assign rfl (ev_tmp h29))
  clear h29; revert hs hd h0 h1 h2 h6 h7 h8 h18; refine frM7 ?_; intro a hs hd h0 h1 h2 h6 h7 h8 h18 h28
  refine wp_cond_false (ev_tmp h28) ?_
  refine wp_seq ?_
  refine wp_region (show wpOps _ _ _ [0, 1] _ _ from ?_)
  refine opL 0 39 (v := .bool true) (w' := w) (by kernel_rfl) (frZ hs) ?_ ?_
  · exact frY rfl (o_eqP rfl (ev_tmp h7) rfl rfl)
  revert hs hd h0 h1 h2 h6 h7 h8 h18 h28; refine frM8 ?_; intro a hs hd h0 h1 h2 h6 h7 h8 h18 h28 h39
  refine opL 1 38 (v := .bool true) (w' := w) (by kernel_rfl) (frZ hs) ?_ ?_
  · exact frY rfl (k_assign rfl (ev_tmp h39))
  clear h39; revert hs hd h0 h1 h2 h6 h7 h8 h18 h28; refine frM8 ?_; intro a hs hd h0 h1 h2 h6 h7 h8 h18 h28 h38
  refine wp_cond_true (ev_tmp h38) ?_
  refine wp_region (show wpOps _ _ _ [0, 1, 2, 3, 4, 5, 6, 7, 8, 9] _ _ from ?_)
  refine opL 0 41 (v := .pointer (some ⟨rb, 0, none⟩)) (w' := w) (by kernel_rfl) (frZ hs) ?_ ?_
  · exact frY rfl (k_move rfl (ev_tmp h0))
  revert hs hd h0 h1 h2 h6 h7 h8 h18 h28 h38; refine frM9 ?_; intro a hs hd h0 h1 h2 h6 h7 h8 h18 h28 h38 h41
  refine opL 1 42 (v := .string ⟨s.toArray⟩) (w' := w) (by kernel_rfl) (frZ hs) ?_ ?_
  · exact frY rfl (k_move rfl (ev_tmp h2))
  revert hs hd h0 h1 h2 h6 h7 h8 h18 h28 h38 h41; refine frM10 ?_; intro a hs hd h0 h1 h2 h6 h7 h8 h18 h28 h38 h41 h42
  have hc := pd_any s w hT
  have hx := fun ops Q rest d a i h1 h2 h3 => opL_call (P := Tryz.prog) (ops := ops) (Q := Q) (a := a) (w := w) (rest := rest) i d h1 h2 h3 hc
  refine hx _ _ _ 43 _ 2 ?z641a ?z641b ?z641 ?z642
  case z641a => kernel_rfl
  case z641b => (rw [hs]; decide)
  case z641 => exact frY rfl (c_pDay8 rfl rfl (ev_tmp h42))
  case z642 =>
  rintro _ w1 a ⟨rfl, l1⟩ F0
  replace hs := F0.z.trans hs
  replace hd := F0.e.trans hd
  replace h0 := (F0.n 0 (by decide)).trans h0
  replace h1 := (F0.n 1 (by decide)).trans h1
  replace h2 := (F0.n 2 (by decide)).trans h2
  replace h6 := (F0.n 6 (by decide)).trans h6
  replace h7 := (F0.n 7 (by decide)).trans h7
  replace h8 := (F0.n 8 (by decide)).trans h8
  replace h18 := (F0.n 18 (by decide)).trans h18
  replace h28 := (F0.n 28 (by decide)).trans h28
  replace h38 := (F0.n 38 (by decide)).trans h38
  replace h41 := (F0.n 41 (by decide)).trans h41
  clear h42
  have h43 := F0.s
  clear F0
  clear hx hc
  have B1 := hB.below l1 hB.lt
  refine opL 3 40 (v := .tuple #[.int .i64 ((Rfc.pday s).getD 0), .bool (Rfc.pday s).isSome]) (w' := w1) (by kernel_rfl) (frZ hs) ?_ ?_
  · exact frY rfl (k_move rfl (ev_tmp h43))
  refine frN10 hs hd h0 h1 h2 h6 h7 h8 h18 h28 h38 h41 ?_; clear hs hd h0 h1 h2 h6 h7 h8 h18 h28 h38 h41 h43; intro a hs hd h0 h1 h2 h6 h7 h8 h18 h28 h38 h41 h40
  refine opL 4 44 (v := .int .i64 ((Rfc.pday s).getD 0)) (w' := w1) (by kernel_rfl) (frZ hs) ?_ ?_
  · exact frY rfl (k_extract rfl (ev_tmp h40) rfl)
  revert hs hd h0 h1 h2 h6 h7 h8 h18 h28 h38 h41 h40; refine frM11 ?_; intro a hs hd h0 h1 h2 h6 h7 h8 h18 h28 h38 h41 h40 h44
  refine opL 5 45 (v := .bool (Rfc.pday s).isSome) (w' := w1) (by kernel_rfl) (frZ hs) ?_ ?_
  · exact frY rfl (k_extract rfl (ev_tmp h40) rfl)
  clear h40; revert hs hd h0 h1 h2 h6 h7 h8 h18 h28 h38 h41 h44; refine frM11 ?_; intro a hs hd h0 h1 h2 h6 h7 h8 h18 h28 h38 h41 h44 h45
  refine opL 6 46 (v := .pointer (some ⟨rb, 0, none⟩)) (w' := w1) (by kernel_rfl) (frZ hs) ?_ ?_
  · exact frY rfl (k_nil rfl (ev_tmp h41))
  clear h41; revert hs hd h0 h1 h2 h6 h7 h8 h18 h28 h38 h44 h45; refine frM11 ?_; intro a hs hd h0 h1 h2 h6 h7 h8 h18 h28 h38 h44 h45 h46
  refine opL 7 47 (v := .pointer (some ⟨rb, 3, none⟩)) (w' := w1) (by kernel_rfl) (frZ hs) ?_ ?_
  · exact frY rfl (k_field3 rfl (ev_tmp h46))
  clear h46; revert hs hd h0 h1 h2 h6 h7 h8 h18 h28 h38 h44 h45; refine frM11 ?_; intro a hs hd h0 h1 h2 h6 h7 h8 h18 h28 h38 h44 h45 h47
  refine opL_store 8 (w' := (w1.setCell ⟨rb, 3, none⟩ (.int .i64 ((Rfc.pday s).getD 0)))) (by kernel_rfl) ?_ ?_
  · exact frY rfl (k_storeU rfl (ev_tmp h47) (ev_tmp h44) B1 (by omega))
  clear h44
  clear h47
  obtain ⟨w2, hw2⟩ : ∃ wn, wn = w1.setCell ⟨rb, 3, none⟩ (.int .i64 ((Rfc.pday s).getD 0)) := ⟨_, rfl⟩
  rw [← hw2]
  have B2 : Blk w2 rb 36 (cs.setIfInBounds 3 (.int .i64 ((Rfc.pday s).getD 0))) := by rw [hw2]; exact B1.set 3 _
  have e2 : ∀ B, Exc B rb w1 w2 := by rw [hw2]; exact exc_set w1 rb 3 _
  clear hw2
  have ee : Exc w.heap.size rb w w2 := (Exc.of l1).trans (e2 _)
  refine opL 9 6 (v := .bool (Rfc.pday s).isSome) (w' := w2) (by kernel_rfl) (frZ hs) ?_ ?_
  · exact frY rfl (k_assign rfl (ev_tmp h45))
  refine frN8 hs hd h0 h1 h2 h7 h8 h18 h28 h38 ?_; clear hs hd h0 h1 h2 h7 h8 h18 h28 h38 h6 h45; intro a hs hd h0 h1 h2 h7 h8 h18 h28 h38 h6
  refine wp_seq ?_
  refine wp_region (show wpOps _ _ _ [0, 1] _ _ from ?_)
  refine opL 0 88 (v := .bool (Rfc.pday s).isSome) (w' := w2) (by kernel_rfl) (frZ hs) ?_ ?_
  · exact frY rfl (k_move rfl (ev_tmp h6))
  revert hs hd h0 h1 h2 h7 h8 h18 h28 h38 h6; refine frM9 ?_; intro a hs hd h0 h1 h2 h7 h8 h18 h28 h38 h6 h88
  refine opL 1 6 (v := .bool (Rfc.pday s).isSome) (w' := w2) (by kernel_rfl) (frZ hs) ?_ ?_
  · exact frY rfl (k_assign rfl (ev_tmp h88))
  clear h6 h88; revert hs hd h0 h1 h2 h7 h8 h18 h28 h38; refine frM8 ?_; intro a hs hd h0 h1 h2 h7 h8 h18 h28 h38 h6
  refine wp_ret ?_
  refine hfin a _ ?_
  exact ⟨hd, _, results_tmp rfl _ _ _, _, rfl, h6, B2, ee⟩

set_option maxRecDepth 100000 in
set_option maxHeartbeats 1000000 in
theorem sv_4_yes (rb : Nat) (cs : Array Value) (h8 : cs.size = 8) (s : List UInt8) (w : World) (hT : Tabs w) (hl : s.length ≤ 100000) (hB : Blk w rb 36 cs) (L : List (Int)) (hL : Rfc.plistI s = some L) :
    Calls Tryz.prog 30 #[.pointer (some ⟨rb, 0, none⟩), .int .i64 4, .string ⟨s.toArray⟩] w fun e w' => ∃ v, e = .returned v ∧ (∃ A cap, v = .bool true ∧ OwnI w' w.heap.size (.slice A L.length cap) L ∧ Blk w' rb 36 (cs.setIfInBounds 4 (.slice A L.length cap)) ∧ Exc w.heap.size rb w w') := by
  refine calls_of_wp Tryz.func30 (show Tryz.f30.body = some svBody from rfl) ?_
  generalize hAA : (Act.mk (#[.pointer (some ⟨rb, 0, none⟩), .int .i64 4, .string ⟨s.toArray⟩] ++ Array.replicate (Tryz.f30.ntmps - (#[.pointer (some ⟨rb, 0, none⟩), .int .i64 4, .string ⟨s.toArray⟩] : Array Value).size) undef) []) = a
  have hs : a.tmps.size = 89 := by rw [← hAA]; simp [Tryz.ntmps30]
  have hd : a.defers = [] := by rw [← hAA]
  have h0 : a.tmps.getD 0 undef = .pointer (some ⟨rb, 0, none⟩) := by rw [← hAA]; simp
  have h1 : a.tmps.getD 1 undef = .int .i64 4 := by rw [← hAA]; simp
  have h2 : a.tmps.getD 2 undef = .string ⟨s.toArray⟩ := by rw [← hAA]; simp
  clear hAA
  suffices hq : ∀ Q : Exit → Act → World → Prop, (∀ (a' : Act) (w' : World), (bodyPost Tryz.prog Tryz.f30 fun e w' => ∃ v, e = .returned v ∧ (∃ A cap, v = .bool true ∧ OwnI w' w.heap.size (.slice A L.length cap) L ∧ Blk w' rb 36 (cs.setIfInBounds 4 (.slice A L.length cap)) ∧ Exc w.heap.size rb w w')) .ret a' w' → Q .ret a' w') → svBody.wp Tryz.prog Q a w from hq _ (fun _ _ h => h)
  intro Q hfin
  unfold svBody
  conv => arg 2; whnf
  refine wp_seq ?_
  refine wp_region (show wpOps _ _ _ [0] _ _ from ?_)
  refine opL 0 6 (v := .bool false) (w' := w) (by kernel_rfl) (frZ hs) ?_ ?_
  · exact frY rfl (k_assign rfl rfl)
  refine frN3 hs hd h0 h1 h2 ?_; clear hs hd h0 h1 h2; intro a hs hd h0 h1 h2 h6
  refine wp_seq ?_
  refine wp_seq ?_
  refine wp_region (show wpOps _ _ _ [0] _ _ from ?_)
  refine opL 0 7 (v := .int .i64 4) (w' := w) (by kernel_rfl) (frZ hs) ?_ ?_
  · exact frY rfl (k_move rfl (ev_tmp h1))
  revert hs hd h0 h1 h2 h6; refine frM4 ?_; intro a hs hd h0 h1 h2 h6 h7
  refine wp_block ?_
  refine wp_seq ?_
  refine wp_region (show wpOps _ _ _ [0, 1] _ _ from ?_)
  refine opL 0 9 (v := .bool false) (w' := w) (by kernel_rfl) (frZ hs) ?_ ?_
  · exact frY rfl (o_eqP rfl (ev_tmp h7) rfl rfl)
  revert hs hd h0 h1 h2 h6 h7; refine frM5 ?_; intro a hs hd h0 h1 h2 h6 h7 h9
  refine opL 1 8 (v := .bool false) (w' := w) (by kernel_rfl) (frZ hs) ?_ ?_
  · exact frY rfl (k_assign rfl (ev_tmp h9))
  clear h9; revert hs hd h0 h1 h2 h6 h7; refine frM5 ?_; intro a hs hd h0 h1 h2 h6 h7 h8
  refine wp_cond_false (ev_tmp h8) ?_
  refine wp_seq ?_
  refine wp_region (show wpOps _ _ _ [0, 1] _ _ from ?_)
  refine opL 0 19 (v := .bool false) (w' := w) (by kernel_rfl) (frZ hs) ?_ ?_
  · exact frY rfl (o_eqP rfl (ev_tmp h7) rfl rfl)
  revert hs hd h0 h1 h2 h6 h7 h8; refine frM6 ?_; intro a hs hd h0 h1 h2 h6 h7 h8 h19
  refine opL 1 18 (v := .bool false) (w' := w) (by kernel_rfl) (frZ hs) ?_ ?_
  · exact frY rfl (k_assign rfl (ev_tmp h19))
  clear h19; revert hs hd h0 h1 h2 h6 h7 h8; refine frM6 ?_; intro a hs hd h0 h1 h2 h6 h7 h8 h18
  refine wp_cond_false (ev_tmp h18) ?_
  refine wp_seq ?_
  refine wp_region (show wpOps _ _ _ [0, 1] _ _ from ?_)
  refine opL 0 29 (v := .bool false) (w' := w) (by kernel_rfl) (frZ hs) ?_ ?_
  · exact frY rfl (o_eqP rfl (ev_tmp h7) rfl rfl)
  revert hs hd h0 h1 h2 h6 h7 h8 h18; refine frM7 ?_; intro a hs hd h0 h1 h2 h6 h7 h8 h18 h29
  refine opL 1 28 (v := .bool false) (w' := w) (by kernel_rfl) (frZ hs) ?_ ?_
  · exact frY rfl (k_assign rfl (ev_tmp h29))
  clear h29; revert hs hd h0 h1 h2 h6 h7 h8 h18; refine frM7 ?_; intro a hs hd h0 h1 h2 h6 h7 h8 h18 h28
  refine wp_cond_false (ev_tmp h28) ?_
  refine wp_seq ?_
  refine wp_region (show wpOps _ _ _ [0, 1] _ _ from ?_)
  refine opL 0 39 (v := .bool false) (w' := w) (by kernel_rfl) (frZ hs) ?_ ?_
  · exact frY rfl (o_eqP rfl (ev_tmp h7) rfl rfl)
  revert hs hd h0 h1 h2 h6 h7 h8 h18 h28; refine frM8 ?_; intro a hs hd h0 h1 h2 h6 h7 h8 h18 h28 h39
  refine opL 1 38 (v := .bool false) (w' := w) (by kernel_rfl) (frZ hs) ?_ ?_
  · exact frY rfl (k_assign rfl (ev_tmp h39))
  clear h39; revert hs hd h0 h1 h2 h6 h7 h8 h18 h28; refine frM8 ?_; intro a hs hd h0 h1 h2 h6 h7 h8 h18 h28 h38
  refine wp_cond_false (ev_tmp h38) ?_
  refine wp_seq ?_
  refine wp_region (show wpOps _ _ _ [0, 1] _ _ from ?_)
  refine opL 0 49 (v := .bool true) (w' := w) (by kernel_rfl) (frZ hs) ?_ ?_
  · exact frY rfl (o_eqP rfl (ev_tmp h7) rfl rfl)
  revert hs hd h0 h1 h2 h6 h7 h8 h18 h28 h38; refine frM9 ?_; intro a hs hd h0 h1 h2 h6 h7 h8 h18 h28 h38 h49
  refine opL 1 48 (v := .bool true) (w' := w) (by kernel_rfl) (frZ hs) ?_ ?_
  · exact frY rfl (k_assign rfl (ev_tmp h49))
  clear h49; revert hs hd h0 h1 h2 h6 h7 h8 h18 h28 h38; refine frM9 ?_; intro a hs hd h0 h1 h2 h6 h7 h8 h18 h28 h38 h48
  refine wp_cond_true (ev_tmp h48) ?_
  refine wp_region (show wpOps _ _ _ [0, 1, 2, 3, 4, 5, 6, 7, 8, 9] _ _ from ?_)
  refine opL 0 51 (v := .pointer (some ⟨rb, 0, none⟩)) (w' := w) (by kernel_rfl) (frZ hs) ?_ ?_
  · exact frY rfl (k_move rfl (ev_tmp h0))
  revert hs hd h0 h1 h2 h6 h7 h8 h18 h28 h38 h48; refine frM10 ?_; intro a hs hd h0 h1 h2 h6 h7 h8 h18 h28 h38 h48 h51
  refine opL 1 52 (v := .string ⟨s.toArray⟩) (w' := w) (by kernel_rfl) (frZ hs) ?_ ?_
  · exact frY rfl (k_move rfl (ev_tmp h2))
  revert hs hd h0 h1 h2 h6 h7 h8 h18 h28 h38 h48 h51; refine frM11 ?_; intro a hs hd h0 h1 h2 h6 h7 h8 h18 h28 h38 h48 h51 h52
  have hc := psI_any s w hT hl
  have hx := fun ops Q rest d a i h1 h2 h3 => opL_call (P := Tryz.prog) (ops := ops) (Q := Q) (a := a) (w := w) (rest := rest) i d h1 h2 h3 hc
  refine hx _ _ _ 53 _ 2 ?z689a ?z689b ?z689 ?z690
  case z689a => kernel_rfl
  case z689b => (rw [hs]; decide)
  case z689 => exact frY rfl (c_plI rfl rfl rfl (ev_tmp h52))
  case z690 =>
  rintro v0 w1 a ⟨hLv, l1⟩ F0
  obtain ⟨A, cap, rfl, hO⟩ : ∃ A cap, v0 = .tuple #[.slice A L.length cap, .bool true] ∧ OwnI w1 w.heap.size (.slice A L.length cap) L := by
    unfold LI at hLv
    rw [hL] at hLv
    exact hLv
  clear hLv
  replace hs := F0.z.trans hs
  replace hd := F0.e.trans hd
  replace h0 := (F0.n 0 (by decide)).trans h0
  replace h1 := (F0.n 1 (by decide)).trans h1
  replace h2 := (F0.n 2 (by decide)).trans h2
  replace h6 := (F0.n 6 (by decide)).trans h6
  replace h7 := (F0.n 7 (by decide)).trans h7
  replace h8 := (F0.n 8 (by decide)).trans h8
  replace h18 := (F0.n 18 (by decide)).trans h18
  replace h28 := (F0.n 28 (by decide)).trans h28
  replace h38 := (F0.n 38 (by decide)).trans h38
  replace h48 := (F0.n 48 (by decide)).trans h48
  replace h51 := (F0.n 51 (by decide)).trans h51
  clear h52
  have h53 := F0.s
  clear F0
  clear hx hc
  have B1 := hB.below l1 hB.lt
  refine opL 3 50 (v := .tuple #[.slice A L.length cap, .bool true]) (w' := w1) (by kernel_rfl) (frZ hs) ?_ ?_
  · exact frY rfl (k_move rfl (ev_tmp h53))
  refine frN11 hs hd h0 h1 h2 h6 h7 h8 h18 h28 h38 h48 h51 ?_; clear hs hd h0 h1 h2 h6 h7 h8 h18 h28 h38 h48 h51 h53; intro a hs hd h0 h1 h2 h6 h7 h8 h18 h28 h38 h48 h51 h50
  refine opL 4 54 (v := .slice A L.length cap) (w' := w1) (by kernel_rfl) (frZ hs) ?_ ?_
  · exact frY rfl (k_extract rfl (ev_tmp h50) rfl)
  revert hs hd h0 h1 h2 h6 h7 h8 h18 h28 h38 h48 h51 h50; refine frM12 ?_; intro a hs hd h0 h1 h2 h6 h7 h8 h18 h28 h38 h48 h51 h50 h54
  refine opL 5 55 (v := .bool true) (w' := w1) (by kernel_rfl) (frZ hs) ?_ ?_
  · exact frY rfl (k_extract rfl (ev_tmp h50) rfl)
  clear h50; revert hs hd h0 h1 h2 h6 h7 h8 h18 h28 h38 h48 h51 h54; refine frM12 ?_; intro a hs hd h0 h1 h2 h6 h7 h8 h18 h28 h38 h48 h51 h54 h55
  refine opL 6 56 (v := .pointer (some ⟨rb, 0, none⟩)) (w' := w1) (by kernel_rfl) (frZ hs) ?_ ?_
  · exact frY rfl (k_nil rfl (ev_tmp h51))
  clear h51; revert hs hd h0 h1 h2 h6 h7 h8 h18 h28 h38 h48 h54 h55; refine frM12 ?_; intro a hs hd h0 h1 h2 h6 h7 h8 h18 h28 h38 h48 h54 h55 h56
  refine opL 7 57 (v := .pointer (some ⟨rb, 4, none⟩)) (w' := w1) (by kernel_rfl) (frZ hs) ?_ ?_
  · exact frY rfl (k_field4 rfl (ev_tmp h56))
  clear h56; revert hs hd h0 h1 h2 h6 h7 h8 h18 h28 h38 h48 h54 h55; refine frM12 ?_; intro a hs hd h0 h1 h2 h6 h7 h8 h18 h28 h38 h48 h54 h55 h57
  refine opL_store 8 (w' := (w1.setCell ⟨rb, 4, none⟩ (.slice A L.length cap))) (by kernel_rfl) ?_ ?_
  · exact frY rfl (k_storeL rfl (ev_tmp h57) (ev_tmp h54) B1 (by omega))
  clear h57
  clear h54
  obtain ⟨w2, hw2⟩ : ∃ wn, wn = w1.setCell ⟨rb, 4, none⟩ (.slice A L.length cap) := ⟨_, rfl⟩
  rw [← hw2]
  have B2 : Blk w2 rb 36 (cs.setIfInBounds 4 (.slice A L.length cap)) := by rw [hw2]; exact B1.set 4 _
  have e2 : ∀ B, Exc B rb w1 w2 := by rw [hw2]; exact exc_set w1 rb 4 _
  clear hw2
  have ee : Exc w.heap.size rb w w2 := (Exc.of l1).trans (e2 _)
  refine opL 9 6 (v := .bool true) (w' := w2) (by kernel_rfl) (frZ hs) ?_ ?_
  · exact frY rfl (k_assign rfl (ev_tmp h55))
  refine frN9 hs hd h0 h1 h2 h7 h8 h18 h28 h38 h48 ?_; clear hs hd h0 h1 h2 h7 h8 h18 h28 h38 h48 h6 h55; intro a hs hd h0 h1 h2 h7 h8 h18 h28 h38 h48 h6
  refine wp_seq ?_
  refine wp_region (show wpOps _ _ _ [0, 1] _ _ from ?_)
  refine opL 0 88 (v := .bool true) (w' := w2) (by kernel_rfl) (frZ hs) ?_ ?_
  · exact frY rfl (k_move rfl (ev_tmp h6))
  revert hs hd h0 h1 h2 h7 h8 h18 h28 h38 h48 h6; refine frM10 ?_; intro a hs hd h0 h1 h2 h7 h8 h18 h28 h38 h48 h6 h88
  refine opL 1 6 (v := .bool true) (w' := w2) (by kernel_rfl) (frZ hs) ?_ ?_
  · exact frY rfl (k_assign rfl (ev_tmp h88))
  clear h6 h88; revert hs hd h0 h1 h2 h7 h8 h18 h28 h38 h48; refine frM9 ?_; intro a hs hd h0 h1 h2 h7 h8 h18 h28 h38 h48 h6
  refine wp_ret ?_
  refine hfin a _ ?_
  exact ⟨hd, _, results_tmp rfl _ _ _, _, rfl, A, cap, h6, hO.exc (e2 w1.heap.size) (fun g hg => ⟨(hO.lt g hg).2, by have := (hO.lt g hg).1; have := hB.lt; omega⟩), B2, ee⟩

set_option maxRecDepth 100000 in
set_option maxHeartbeats 1000000 in
theorem sv_4_no (rb : Nat) (cs : Array Value) (h8 : cs.size = 8) (s : List UInt8) (w : World) (hT : Tabs w) (hl : s.length ≤ 100000) (hB : Blk w rb 36 cs) (hL : Rfc.plistI s = none) :
    Calls Tryz.prog 30 #[.pointer (some ⟨rb, 0, none⟩), .int .i64 4, .string ⟨s.toArray⟩] w fun e w' => ∃ v, e = .returned v ∧ (v = .bool false ∧ Blk w' rb 36 (cs.setIfInBounds 4 (.slice none 0 0)) ∧ Exc w.heap.size rb w w') := by
  refine calls_of_wp Tryz.func30 (show Tryz.f30.body = some svBody from rfl) ?_
  generalize hAA : (Act.mk (#[.pointer (some ⟨rb, 0, none⟩), .int .i64 4, .string ⟨s.toArray⟩] ++ Array.replicate (Tryz.f30.ntmps - (#[.pointer (some ⟨rb, 0, none⟩), .int .i64 4, .string ⟨s.toArray⟩] : Array Value).size) undef) []) = a
  have hs : a.tmps.size = 89 := by rw [← hAA]; simp [Tryz.ntmps30]
  have hd : a.defers = [] := by rw [← hAA]
  have h0 : a.tmps.getD 0 undef = .pointer (some ⟨rb, 0, none⟩) := by rw [← hAA]; simp
  have h1 : a.tmps.getD 1 undef = .int .i64 4 := by rw [← hAA]; simp
  have h2 : a.tmps.getD 2 undef = .string ⟨s.toArray⟩ := by rw [← hAA]; simp
  clear hAA
  suffices hq : ∀ Q : Exit → Act → World → Prop, (∀ (a' : Act) (w' : World), (bodyPost Tryz.prog Tryz.f30 fun e w' => ∃ v, e = .returned v ∧ (v = .bool false ∧ Blk w' rb 36 (cs.setIfInBounds 4 (.slice none 0 0)) ∧ Exc w.heap.size rb w w')) .ret a' w' → Q .ret a' w') → svBody.wp Tryz.prog Q a w from hq _ (fun _ _ h => h)
  intro Q hfin
  unfold svBody
  conv => arg 2; whnf
  refine wp_seq ?_
  refine wp_region (show wpOps _ _ _ [0] _ _ from ?_)
  refine opL 0 6 (v := .bool false) (w' := w) (by kernel_rfl) (frZ hs) ?_ ?_
  · exact frY rfl (k_assign rfl rfl)
  refine frN3 hs hd h0 h1 h2 ?_; clear hs hd h0 h1 h2; intro a hs hd h0 h1 h2 h6
  refine wp_seq ?_
  refine wp_seq ?_
  refine wp_region (show wpOps _ _ _ [0] _ _ from ?_)
  refine opL 0 7 (v := .int .i64 4) (w' := w) (by kernel_rfl) (frZ hs) ?_ ?_
  · exact frY rfl (k_move rfl (ev_tmp h1))
  revert hs hd h0 h1 h2 h6; refine frM4 ?_; intro a hs hd h0 h1 h2 h6 h7
  refine wp_block ?_
  refine wp_seq ?_
  refine wp_region (show wpOps _ _ _ [0, 1] _ _ from ?_)
  refine opL 0 9 (v := .bool false) (w' := w) (by kernel_rfl) (frZ hs) ?_ ?_
  · exact frY rfl (o_eqP rfl (ev_tmp h7) rfl rfl)
  revert hs hd h0 h1 h2 h6 h7; refine frM5 ?_; intro a hs hd h0 h1 h2 h6 h7 h9
  refine opL 1 8 (v := .bool false) (w' := w) (by kernel_rfl) (frZ hs) ?_ ?_
  · exact frY rfl (k_assign rfl (ev_tmp h9))
  clear h9; revert hs hd h0 h1 h2 h6 h7; refine frM5 ?_; intro a hs hd h0 h1 h2 h6 h7 h8
  refine wp_cond_false (ev_tmp h8) ?_
  refine wp_seq ?_
  refine wp_region (show wpOps _ _ _ [0, 1] _ _ from ?_)
  refine opL 0 19 (v := .bool false) (w' := w) (by kernel_rfl) (frZ hs) ?_ ?_
  · exact frY rfl (o_eqP rfl (ev_tmp h7) rfl rfl)
  revert hs hd h0 h1 h2 h6 h7 h8; refine frM6 ?_; intro a hs hd h0 h1 h2 h6 h7 h8 h19
  refine opL 1 18 (v := .bool false) (w' := w) (by kernel_rfl) (frZ hs) ?_ ?_
  · exact frY rfl (k_assign rfl (ev_tmp h19))
  clear h19; revert hs hd h0 h1 h2 h6 h7 h8; refine frM6 ?_; intro a hs hd h0 h1 h2 h6 h7 h8 h18
  refine wp_cond_false (ev_tmp h18) ?_
  refine wp_seq ?_
  refine wp_region (show wpOps _ _ _ [0, 1] _ _ from ?_)
  refine opL 0 29 (v := .bool false) (w' := w) (by kernel_rfl) (frZ hs) ?_ ?_
  · exact frY rfl (o_eqP rfl (ev_tmp h7) rfl rfl)
  revert hs hd h0 h1 h2 h6 h7 h8 h18; refine frM7 ?_; intro a hs hd h0 h1 h2 h6 h7 h8 h18 h29
  refine opL 1 28 (v := .bool false) (w' := w) (by kernel_rfl) (frZ hs) ?_ ?_
  · exact frY rfl (k_assign rfl (ev_tmp h29))
  clear h29; revert hs hd h0 h1 h2 h6 h7 h8 h18; refine frM7 ?_; intro a hs hd h0 h1 h2 h6 h7 h8 h18 h28
  refine wp_cond_false (ev_tmp h28) ?_
  refine wp_seq ?_
  refine wp_region (show wpOps _ _ _ [0, 1] _ _ from ?_)
  refine opL 0 39 (v := .bool false) (w' := w) (by kernel_rfl) (frZ hs) ?_ ?_
  · exact frY rfl (o_eqP rfl (ev_tmp h7) rfl rfl)
  revert hs hd h0 h1 h2 h6 h7 h8 h18 h28; refine frM8 ?_; intro a hs hd h0 h1 h2 h6 h7 h8 h18 h28 h39
  refine opL 1 38 (v := .bool false) (w' := w) (by kernel_rfl) (frZ hs) ?_ ?_
  · exact frY rfl (k_assign rfl (ev_tmp h39))
  clear h39; revert hs hd h0 h1 h2 h6 h7 h8 h18 h28; refine frM8 ?_; intro a hs hd h0 h1 h2 h6 h7 h8 h18 h28 h38
  refine wp_cond_false (ev_tmp h38) ?_
  refine wp_seq ?_
  refine wp_region (show wpOps _ _ _ [0, 1] _ _ from ?_)
  refine opL 0 49 (v := .bool true) (w' := w) (by kernel_rfl) (frZ hs) ?_ ?_
  · exact frY rfl (o_eqP rfl (ev_tmp h7) rfl rfl)
  revert hs hd h0 h1 h2 h6 h7 h8 h18 h28 h38; refine frM9 ?_; intro a hs hd h0 h1 h2 h6 h7 h8 h18 h28 h38 h49
  refine opL 1 48 (v := .bool true) (w' := w) (by kernel_rfl) (frZ hs) ?_ ?_
  · exact frY rfl (k_assign rfl (ev_tmp h49))
  clear h49; revert hs hd h0 h1 h2 h6 h7 h8 h18 h28 h38; refine frM9 ?_; intro a hs hd h0 h1 h2 h6 h7 h8 h18 h28 h38 h48
  refine wp_cond_true (ev_tmp h48) ?_
  refine wp_region (show wpOps _ _ _ [0, 1, 2, 3, 4, 5, 6, 7, 8, 9] _ _ from ?_)
  refine opL 0 51 (v := .pointer (some ⟨rb, 0, none⟩)) (w' := w) (by kernel_rfl) (frZ hs) ?_ ?_
  · exact frY rfl (k_move rfl (ev_tmp h0))
  revert hs hd h0 h1 h2 h6 h7 h8 h18 h28 h38 h48; refine frM10 ?_; intro a hs hd h0 h1 h2 h6 h7 h8 h18 h28 h38 h48 h51
  refine opL 1 52 (v := .string ⟨s.toArray⟩) (w' := w) (by kernel_rfl) (frZ hs) ?_ ?_
  · exact frY rfl (k_move rfl (ev_tmp h2))
  revert hs hd h0 h1 h2 h6 h7 h8 h18 h28 h38 h48 h51; refine frM11 ?_; intro a hs hd h0 h1 h2 h6 h7 h8 h18 h28 h38 h48 h51 h52
  have hc := psI_any s w hT hl
  have hx := fun ops Q rest d a i h1 h2 h3 => opL_call (P := Tryz.prog) (ops := ops) (Q := Q) (a := a) (w := w) (rest := rest) i d h1 h2 h3 hc
  refine hx _ _ _ 53 _ 2 ?z737a ?z737b ?z737 ?z738
  case z737a => kernel_rfl
  case z737b => (rw [hs]; decide)
  case z737 => exact frY rfl (c_plI rfl rfl rfl (ev_tmp h52))
  case z738 =>
  rintro v0 w1 a ⟨hLv, l1⟩ F0
  obtain rfl : v0 = .tuple #[.slice none 0 0, .bool false] := by
    unfold LI at hLv
    rw [hL] at hLv
    exact hLv
  clear hLv
  replace hs := F0.z.trans hs
  replace hd := F0.e.trans hd
  replace h0 := (F0.n 0 (by decide)).trans h0
  replace h1 := (F0.n 1 (by decide)).trans h1
  replace h2 := (F0.n 2 (by decide)).trans h2
  replace h6 := (F0.n 6 (by decide)).trans h6
  replace h7 := (F0.n 7 (by decide)).trans h7
  replace h8 := (F0.n 8 (by decide)).trans h8
  replace h18 := (F0.n 18 (by decide)).trans h18
  replace h28 := (F0.n 28 (by decide)).trans h28
  replace h38 := (F0.n 38 (by decide)).trans h38
  replace h48 := (F0.n 48 (by decide)).trans h48
  replace h51 := (F0.n 51 (by decide)).trans h51
  clear h52
  have h53 := F0.s
  clear F0
  clear hx hc
  have B1 := hB.below l1 hB.lt
  refine opL 3 50 (v := .tuple #[.slice none 0 0, .bool false]) (w' := w1) (by kernel_rfl) (frZ hs) ?_ ?_
  · exact frY rfl (k_move rfl (ev_tmp h53))
  refine frN11 hs hd h0 h1 h2 h6 h7 h8 h18 h28 h38 h48 h51 ?_; clear hs hd h0 h1 h2 h6 h7 h8 h18 h28 h38 h48 h51 h53; intro a hs hd h0 h1 h2 h6 h7 h8 h18 h28 h38 h48 h51 h50
  refine opL 4 54 (v := .slice none 0 0) (w' := w1) (by kernel_rfl) (frZ hs) ?_ ?_
  · exact frY rfl (k_extract rfl (ev_tmp h50) rfl)
  revert hs hd h0 h1 h2 h6 h7 h8 h18 h28 h38 h48 h51 h50; refine frM12 ?_; intro a hs hd h0 h1 h2 h6 h7 h8 h18 h28 h38 h48 h51 h50 h54
  refine opL 5 55 (v := .bool false) (w' := w1) (by kernel_rfl) (frZ hs) ?_ ?_
  · exact frY rfl (k_extract rfl (ev_tmp h50) rfl)
  clear h50; revert hs hd h0 h1 h2 h6 h7 h8 h18 h28 h38 h48 h51 h54; refine frM12 ?_; intro a hs hd h0 h1 h2 h6 h7 h8 h18 h28 h38 h48 h51 h54 h55
  refine opL 6 56 (v := .pointer (some ⟨rb, 0, none⟩)) (w' := w1) (by kernel_rfl) (frZ hs) ?_ ?_
  · exact frY rfl (k_nil rfl (ev_tmp h51))
  clear h51; revert hs hd h0 h1 h2 h6 h7 h8 h18 h28 h38 h48 h54 h55; refine frM12 ?_; intro a hs hd h0 h1 h2 h6 h7 h8 h18 h28 h38 h48 h54 h55 h56
  refine opL 7 57 (v := .pointer (some ⟨rb, 4, none⟩)) (w' := w1) (by kernel_rfl) (frZ hs) ?_ ?_
  · exact frY rfl (k_field4 rfl (ev_tmp h56))
  clear h56; revert hs hd h0 h1 h2 h6 h7 h8 h18 h28 h38 h48 h54 h55; refine frM12 ?_; intro a hs hd h0 h1 h2 h6 h7 h8 h18 h28 h38 h48 h54 h55 h57
  refine opL_store 8 (w' := (w1.setCell ⟨rb, 4, none⟩ (.slice none 0 0))) (by kernel_rfl) ?_ ?_
  · exact frY rfl (k_storeL rfl (ev_tmp h57) (ev_tmp h54) B1 (by omega))
  clear h57
  clear h54
  obtain ⟨w2, hw2⟩ : ∃ wn, wn = w1.setCell ⟨rb, 4, none⟩ (.slice none 0 0) := ⟨_, rfl⟩
  rw [← hw2]
  have B2 : Blk w2 rb 36 (cs.setIfInBounds 4 (.slice none 0 0)) := by rw [hw2]; exact B1.set 4 _
  have e2 : ∀ B, Exc B rb w1 w2 := by rw [hw2]; exact exc_set w1 rb 4 _
  clear hw2
  have ee : Exc w.heap.size rb w w2 := (Exc.of l1).trans (e2 _)
  refine opL 9 6 (v := .bool false) (w' := w2) (by kernel_rfl) (frZ hs) ?_ ?_
  · exact frY rfl (k_assign rfl (ev_tmp h55))
  refine frN9 hs hd h0 h1 h2 h7 h8 h18 h28 h38 h48 ?_; clear hs hd h0 h1 h2 h7 h8 h18 h28 h38 h48 h6 h55; intro a hs hd h0 h1 h2 h7 h8 h18 h28 h38 h48 h6
  refine wp_seq ?_
  refine wp_region (show wpOps _ _ _ [0, 1] _ _ from ?_)
  refine opL 0 88 (v := .bool false) (w' := w2) (by kernel_rfl) (frZ hs) ?_ ?_
  · exact frY rfl (k_move rfl (ev_tmp h6))
  revert hs hd h0 h1 h2 h7 h8 h18 h28 h38 h48 h6; refine frM10 ?_; intro a hs hd h0 h1 h2 h7 h8 h18 h28 h38 h48 h6 h88
  refine opL 1 6 (v := .bool false) (w' := w2) (by kernel_rfl) (frZ hs) ?_ ?_
  · exact frY rfl (k_assign rfl (ev_tmp h88))
  clear h6 h88; revert hs hd h0 h1 h2 h7 h8 h18 h28 h38 h48; refine frM9 ?_; intro a hs hd h0 h1 h2 h7 h8 h18 h28 h38 h48 h6
  refine wp_ret ?_
  refine hfin a _ ?_
  exact ⟨hd, _, results_tmp rfl _ _ _, _, rfl, h6, B2, ee⟩

set_option maxRecDepth 100000 in
set_option maxHeartbeats 1000000 in
theorem sv_5_yes (rb : Nat) (cs : Array Value) (h8 : cs.size = 8) (s : List UInt8) (w : World) (hT : Tabs w) (hl : s.length ≤ 100000) (hB : Blk w rb 36 cs) (L : List (Int)) (hL : Rfc.plistI s = some L) :
    Calls Tryz.prog 30 #[.pointer (some ⟨rb, 0, none⟩), .int .i64 5, .string ⟨s.toArray⟩] w fun e w' => ∃ v, e = .returned v ∧ (∃ A cap, v = .bool true ∧ OwnI w' w.heap.size (.slice A L.length cap) L ∧ Blk w' rb 36 (cs.setIfInBounds 5 (.slice A L.length cap)) ∧ Exc w.heap.size rb w w') := by
  refine calls_of_wp Tryz.func30 (show Tryz.f30.body = some svBody from rfl) ?_
  generalize hAA : (Act.mk (#[.pointer (some ⟨rb, 0, none⟩), .int .i64 5, .string ⟨s.toArray⟩] ++ Array.replicate (Tryz.f30.ntmps - (#[.pointer (some ⟨rb, 0, none⟩), .int .i64 5, .string ⟨s.toArray⟩] : Array Value).size) undef) []) = a
  have hs : a.tmps.size = 89 := by rw [← hAA]; simp [Tryz.ntmps30]
  have hd : a.defers = [] := by rw [← hAA]
  have h0 : a.tmps.getD 0 undef = .pointer (some ⟨rb, 0, none⟩) := by rw [← hAA]; simp
  have h1 : a.tmps.getD 1 undef = .int .i64 5 := by rw [← hAA]; simp
  have h2 : a.tmps.getD 2 undef = .string ⟨s.toArray⟩ := by rw [← hAA]; simp
  clear hAA
  suffices hq : ∀ Q : Exit → Act → World → Prop, (∀ (a' : Act) (w' : World), (bodyPost Tryz.prog Tryz.f30 fun e w' => ∃ v, e = .returned v ∧ (∃ A cap, v = .bool true ∧ OwnI w' w.heap.size (.slice A L.length cap) L ∧ Blk w' rb 36 (cs.setIfInBounds 5 (.slice A L.length cap)) ∧ Exc w.heap.size rb w w')) .ret a' w' → Q .ret a' w') → svBody.wp Tryz.prog Q a w from hq _ (fun _ _ h => h)
  intro Q hfin
  unfold svBody
  conv => arg 2; whnf
  refine wp_seq ?_
  refine wp_region (show wpOps _ _ _ [0] _ _ from ?_)
  refine opL 0 6 (v := .bool false) (w' := w) (by kernel_rfl) (frZ hs) ?_ ?_
  · exact frY rfl (k_assign rfl rfl)
  refine frN3 hs hd h0 h1 h2 ?_; clear hs hd h0 h1 h2; intro a hs hd h0 h1 h2 h6
  refine wp_seq ?_
  refine wp_seq ?_
  refine wp_region (show wpOps _ _ _ [0] _ _ from ?_)
  refine opL 0 7 (v := .int .i64 5) (w' := w) (by kernel_rfl) (frZ hs) ?_ ?_
  · exact frY rfl (k_move rfl (ev_tmp h1))
  revert hs hd h0 h1 h2 h6; refine frM4 ?_; intro a hs hd h0 h1 h2 h6 h7
  refine wp_block ?_
  refine wp_seq ?_
  refine wp_region (show wpOps _ _ _ [0, 1] _ _ from ?_)
  refine opL 0 9 (v := .bool false) (w' := w) (by kernel_rfl) (frZ hs) ?_ ?_
  · exact frY rfl (o_eqP rfl (ev_tmp h7) rfl rfl)
  revert hs hd h0 h1 h2 h6 h7; refine frM5 ?_; intro a hs hd h0 h1 h2 h6 h7 h9
  refine opL 1 8 (v := .bool false) (w' := w) (by kernel_rfl) (frZ hs) ?_ ?_
  · exact frY rfl (k_assign rfl (ev_tmp h9))
  clear h9; revert hs hd h0 h1 h2 h6 h7; refine frM5 ?_; intro a hs hd h0 h1 h2 h6 h7 h8
  refine wp_cond_false (ev_tmp h8) ?_
  refine wp_seq ?_
  refine wp_region (show wpOps _ _ _ [0, 1] _ _ from ?_)
  refine opL 0 19 (v := .bool false) (w' := w) (by kernel_rfl) (frZ hs) ?_ ?_
  · exact frY rfl (o_eqP rfl (ev_tmp h7) rfl rfl)
  revert hs hd h0 h1 h2 h6 h7 h8; refine frM6 ?_; intro a hs hd h0 h1 h2 h6 h7 h8 h19
  refine opL 1 18 (v := .bool false) (w' := w) (by kernel_rfl) (frZ hs) ?_ ?_
  · exact frY rfl (k_assign rfl (ev_tmp h19))
  clear h19; revert hs hd h0 h1 h2 h6 h7 h8; refine frM6 ?_; intro a hs hd h0 h1 h2 h6 h7 h8 h18
  refine wp_cond_false (ev_tmp h18) ?_
  refine wp_seq ?_
  refine wp_region (show wpOps _ _ _ [0, 1] _ _ from ?_)
  refine opL 0 29 (v := .bool false) (w' := w) (by kernel_rfl) (frZ hs) ?_ ?_
  · exact frY rfl (o_eqP rfl (ev_tmp h7) rfl rfl)
  revert hs hd h0 h1 h2 h6 h7 h8 h18; refine frM7 ?_; intro a hs hd h0 h1 h2 h6 h7 h8 h18 h29
  refine opL 1 28 (v := .bool false) (w' := w) (by kernel_rfl) (frZ hs) ?_ ?_
  · exact frY rfl (k_assign rfl (ev_tmp h29))
  clear h29; revert hs hd h0 h1 h2 h6 h7 h8 h18; refine frM7 ?_; intro a hs hd h0 h1 h2 h6 h7 h8 h18 h28
  refine wp_cond_false (ev_tmp h28) ?_
  refine wp_seq ?_
  refine wp_region (show wpOps _ _ _ [0, 1] _ _ from ?_)
  refine opL 0 39 (v := .bool false) (w' := w) (by kernel_rfl) (frZ hs) ?_ ?_
  · exact frY rfl (o_eqP rfl (ev_tmp h7) rfl rfl)
  revert hs hd h0 h1 h2 h6 h7 h8 h18 h28; refine frM8 ?_; intro a hs hd h0 h1 h2 h6 h7 h8 h18 h28 h39
  refine opL 1 38 (v := .bool false) (w' := w) (by kernel_rfl) (frZ hs) ?_ ?_
  · exact frY rfl (k_assign rfl (ev_tmp h39))
  clear h39; revert hs hd h0 h1 h2 h6 h7 h8 h18 h28; refine frM8 ?_; intro a hs hd h0 h1 h2 h6 h7 h8 h18 h28 h38
  refine wp_cond_false (ev_tmp h38) ?_
  refine wp_seq ?_
  refine wp_region (show wpOps _ _ _ [0, 1] _ _ from ?_)
  refine opL 0 49 (v := .bool false) (w' := w) (by kernel_rfl) (frZ hs) ?_ ?_
  · exact frY rfl (o_eqP rfl (ev_tmp h7) rfl rfl)
  revert hs hd h0 h1 h2 h6 h7 h8 h18 h28 h38; refine frM9 ?_; intro a hs hd h0 h1 h2 h6 h7 h8 h18 h28 h38 h49
  refine opL 1 48 (v := .bool false) (w' := w) (by kernel_rfl) (frZ hs) ?_ ?_
  · exact frY rfl (k_assign rfl (ev_tmp h49))
  clear h49; revert hs hd h0 h1 h2 h6 h7 h8 h18 h28 h38; refine frM9 ?_; intro a hs hd h0 h1 h2 h6 h7 h8 h18 h28 h38 h48
  refine wp_cond_false (ev_tmp h48) ?_
  refine wp_seq ?_
  refine wp_region (show wpOps _ _ _ [0, 1] _ _ from ?_)
  refine opL 0 59 (v := .bool true) (w' := w) (by kernel_rfl) (frZ hs) ?_ ?_
  · exact frY rfl (o_eqP rfl (ev_tmp h7) rfl rfl)
  revert hs hd h0 h1 h2 h6 h7 h8 h18 h28 h38 h48; refine frM10 ?_; intro a hs hd h0 h1 h2 h6 h7 h8 h18 h28 h38 h48 h59
  refine opL 1 58 (v := .bool true) (w' := w) (by kernel_rfl) (frZ hs) ?_ ?_
  · exact frY rfl (k_assign rfl (ev_tmp h59))
  clear h59; revert hs hd h0 h1 h2 h6 h7 h8 h18 h28 h38 h48; refine frM10 ?_; intro a hs hd h0 h1 h2 h6 h7 h8 h18 h28 h38 h48 h58
  refine wp_cond_true (ev_tmp h58) ?_
  refine wp_region (show wpOps _ _ _ [0, 1, 2, 3, 4, 5, 6, 7, 8, 9] _ _ from ?_)
  refine opL 0 61 (v := .pointer (some ⟨rb, 0, none⟩)) (w' := w) (by kernel_rfl) (frZ hs) ?_ ?_
  · exact frY rfl (k_move rfl (ev_tmp h0))
  revert hs hd h0 h1 h2 h6 h7 h8 h18 h28 h38 h48 h58; refine frM11 ?_; intro a hs hd h0 h1 h2 h6 h7 h8 h18 h28 h38 h48 h58 h61
  refine opL 1 62 (v := .string ⟨s.toArray⟩) (w' := w) (by kernel_rfl) (frZ hs) ?_ ?_
  · exact frY rfl (k_move rfl (ev_tmp h2))
  revert hs hd h0 h1 h2 h6 h7 h8 h18 h28 h38 h48 h58 h61; refine frM12 ?_; intro a hs hd h0 h1 h2 h6 h7 h8 h18 h28 h38 h48 h58 h61 h62
  have hc := psI_any s w hT hl
  have hx := fun ops Q rest d a i h1 h2 h3 => opL_call (P := Tryz.prog) (ops := ops) (Q := Q) (a := a) (w := w) (rest := rest) i d h1 h2 h3 hc
  refine hx _ _ _ 63 _ 2 ?z789a ?z789b ?z789 ?z790
  case z789a => kernel_rfl
  case z789b => (rw [hs]; decide)
  case z789 => exact frY rfl (c_plI rfl rfl rfl (ev_tmp h62))
  case z790 =>
  rintro v0 w1 a ⟨hLv, l1⟩ F0
  obtain ⟨A, cap, rfl, hO⟩ : ∃ A cap, v0 = .tuple #[.slice A L.length cap, .bool true] ∧ OwnI w1 w.heap.size (.slice A L.length cap) L := by
    unfold LI at hLv
    rw [hL] at hLv
    exact hLv
  clear hLv
  replace hs := F0.z.trans hs
  replace hd := F0.e.trans hd
  replace h0 := (F0.n 0 (by decide)).trans h0
  replace h1 := (F0.n 1 (by decide)).trans h1
  replace h2 := (F0.n 2 (by decide)).trans h2
  replace h6 := (F0.n 6 (by decide)).trans h6
  replace h7 := (F0.n 7 (by decide)).trans h7
  replace h8 := (F0.n 8 (by decide)).trans h8
  replace h18 := (F0.n 18 (by decide)).trans h18
  replace h28 := (F0.n 28 (by decide)).trans h28
  replace h38 := (F0.n 38 (by decide)).trans h38
  replace h48 := (F0.n 48 (by decide)).trans h48
  replace h58 := (F0.n 58 (by decide)).trans h58
  replace h61 := (F0.n 61 (by decide)).trans h61
  clear h62
  have h63 := F0.s
  clear F0
  clear hx hc
  have B1 := hB.below l1 hB.lt
  refine opL 3 60 (v := .tuple #[.slice A L.length cap, .bool true]) (w' := w1) (by kernel_rfl) (frZ hs) ?_ ?_
  · exact frY rfl (k_move rfl (ev_tmp h63))
  refine frN12 hs hd h0 h1 h2 h6 h7 h8 h18 h28 h38 h48 h58 h61 ?_; clear hs hd h0 h1 h2 h6 h7 h8 h18 h28 h38 h48 h58 h61 h63; intro a hs hd h0 h1 h2 h6 h7 h8 h18 h28 h38 h48 h58 h61 h60
  refine opL 4 64 (v := .slice A L.length cap) (w' := w1) (by kernel_rfl) (frZ hs) ?_ ?_
  · exact frY rfl (k_extract rfl (ev_tmp h60) rfl)
  revert hs hd h0 h1 h2 h6 h7 h8 h18 h28 h38 h48 h58 h61 h60; refine frM13 ?_; intro a hs hd h0 h1 h2 h6 h7 h8 h18 h28 h38 h48 h58 h61 h60 h64
  refine opL 5 65 (v := .bool true) (w' := w1) (by kernel_rfl) (frZ hs) ?_ ?_
  · exact frY rfl (k_extract rfl (ev_tmp h60) rfl)
  clear h60; revert hs hd h0 h1 h2 h6 h7 h8 h18 h28 h38 h48 h58 h61 h64; refine frM13 ?_; intro a hs hd h0 h1 h2 h6 h7 h8 h18 h28 h38 h48 h58 h61 h64 h65
  refine opL 6 66 (v := .pointer (some ⟨rb, 0, none⟩)) (w' := w1) (by kernel_rfl) (frZ hs) ?_ ?_
  · exact frY rfl (k_nil rfl (ev_tmp h61))
  clear h61; revert hs hd h0 h1 h2 h6 h7 h8 h18 h28 h38 h48 h58 h64 h65; refine frM13 ?_; intro a hs hd h0 h1 h2 h6 h7 h8 h18 h28 h38 h48 h58 h64 h65 h66
  refine opL 7 67 (v := .pointer (some ⟨rb, 5, none⟩)) (w' := w1) (by kernel_rfl) (frZ hs) ?_ ?_
  · exact frY rfl (k_field5 rfl (ev_tmp h66))
  clear h66; revert hs hd h0 h1 h2 h6 h7 h8 h18 h28 h38 h48 h58 h64 h65; refine frM13 ?_; intro a hs hd h0 h1 h2 h6 h7 h8 h18 h28 h38 h48 h58 h64 h65 h67
  refine opL_store 8 (w' := (w1.setCell ⟨rb, 5, none⟩ (.slice A L.length cap))) (by kernel_rfl) ?_ ?_
  · exact frY rfl (k_storeL rfl (ev_tmp h67) (ev_tmp h64) B1 (by omega))
  clear h64
  clear h67
  obtain ⟨w2, hw2⟩ : ∃ wn, wn = w1.setCell ⟨rb, 5, none⟩ (.slice A L.length cap) := ⟨_, rfl⟩
  rw [← hw2]
  have B2 : Blk w2 rb 36 (cs.setIfInBounds 5 (.slice A L.length cap)) := by rw [hw2]; exact B1.set 5 _
  have e2 : ∀ B, Exc B rb w1 w2 := by rw [hw2]; exact exc_set w1 rb 5 _
  clear hw2
  have ee : Exc w.heap.size rb w w2 := (Exc.of l1).trans (e2 _)
  refine opL 9 6 (v := .bool true) (w' := w2) (by kernel_rfl) (frZ hs) ?_ ?_
  · exact frY rfl (k_assign rfl (ev_tmp h65))
  refine frN10 hs hd h0 h1 h2 h7 h8 h18 h28 h38 h48 h58 ?_; clear hs hd h0 h1 h2 h7 h8 h18 h28 h38 h48 h58 h6 h65; intro a hs hd h0 h1 h2 h7 h8 h18 h28 h38 h48 h58 h6
  refine wp_seq ?_
  refine wp_region (show wpOps _ _ _ [0, 1] _ _ from ?_)
  refine opL 0 88 (v := .bool true) (w' := w2) (by kernel_rfl) (frZ hs) ?_ ?_
  · exact frY rfl (k_move rfl (ev_tmp h6))
  revert hs hd h0 h1 h2 h7 h8 h18 h28 h38 h48 h58 h6; refine frM11 ?_; intro a hs hd h0 h1 h2 h7 h8 h18 h28 h38 h48 h58 h6 h88
  refine opL 1 6 (v := .bool true) (w' := w2) (by kernel_rfl) (frZ hs) ?_ ?_
  · exact frY rfl (k_assign rfl (ev_tmp h88))
  clear h6 h88; revert hs hd h0 h1 h2 h7 h8 h18 h28 h38 h48 h58; refine frM10 ?_; intro a hs hd h0 h1 h2 h7 h8 h18 h28 h38 h48 h58 h6
  refine wp_ret ?_
  refine hfin a _ ?_
  exact ⟨hd, _, results_tmp rfl _ _ _, _, rfl, A, cap, h6, hO.exc (e2 w1.heap.size) (fun g hg => ⟨(hO.lt g hg).2, by have := (hO.lt g hg).1; have := hB.lt; omega⟩), B2, ee⟩

set_option maxRecDepth 100000 in
set_option maxHeartbeats 1000000 in
theorem sv_5_no (rb : Nat) (cs : Array Value) (h8 : cs.size = 8) (s : List UInt8) (w : World) (hT : Tabs w) (hl : s.length ≤ 100000) (hB : Blk w rb 36 cs) (hL : Rfc.plistI s = none) :
    Calls Tryz.prog 30 #[.pointer (some ⟨rb, 0, none⟩), .int .i64 5, .string ⟨s.toArray⟩] w fun e w' => ∃ v, e = .returned v ∧ (v = .bool false ∧ Blk w' rb 36 (cs.setIfInBounds 5 (.slice none 0 0)) ∧ Exc w.heap.size rb w w') := by
  refine calls_of_wp Tryz.func30 (show Tryz.f30.body = some svBody from rfl) ?_
  generalize hAA : (Act.mk (#[.pointer (some ⟨rb, 0, none⟩), .int .i64 5, .string ⟨s.toArray⟩] ++ Array.replicate (Tryz.f30.ntmps - (#[.pointer (some ⟨rb, 0, none⟩), .int .i64 5, .string ⟨s.toArray⟩] : Array Value).size) undef) []) = a
  have hs : a.tmps.size = 89 := by rw [← hAA]; simp [Tryz.ntmps30]
  have hd : a.defers = [] := by rw [← hAA]
  have h0 : a.tmps.getD 0 undef = .pointer (some ⟨rb, 0, none⟩) := by rw [← hAA]; simp
  have h1 : a.tmps.getD 1 undef = .int .i64 5 := by rw [← hAA]; simp
  have h2 : a.tmps.getD 2 undef = .string ⟨s.toArray⟩ := by rw [← hAA]; simp
  clear hAA
  suffices hq : ∀ Q : Exit → Act → World → Prop, (∀ (a' : Act) (w' : World), (bodyPost Tryz.prog Tryz.f30 fun e w' => ∃ v, e = .returned v ∧ (v = .bool false ∧ Blk w' rb 36 (cs.setIfInBounds 5 (.slice none 0 0)) ∧ Exc w.heap.size rb w w')) .ret a' w' → Q .ret a' w') → svBody.wp Tryz.prog Q a w from hq _ (fun _ _ h => h)
  intro Q hfin
  unfold svBody
  conv => arg 2; whnf
  refine wp_seq ?_
  refine wp_region (show wpOps _ _ _ [0] _ _ from ?_)
  refine opL 0 6 (v := .bool false) (w' := w) (by kernel_rfl) (frZ hs) ?_ ?_
  · exact frY rfl (k_assign rfl rfl)
  refine frN3 hs hd h0 h1 h2 ?_; clear hs hd h0 h1 h2; intro a hs hd h0 h1 h2 h6
  refine wp_seq ?_
  refine wp_seq ?_
  refine wp_region (show wpOps _ _ _ [0] _ _ from ?_)
  refine opL 0 7 (v := .int .i64 5) (w' := w) (by kernel_rfl) (frZ hs) ?_ ?_
  · exact frY rfl (k_move rfl (ev_tmp h1))
  revert hs hd h0 h1 h2 h6; refine frM4 ?_; intro a hs hd h0 h1 h2 h6 h7
  refine wp_block ?_
  refine wp_seq ?_
  refine wp_region (show wpOps _ _ _ [0, 1] _ _ from ?_)
  refine opL 0 9 (v := .bool false) (w' := w) (by kernel_rfl) (frZ hs) ?_ ?_
  · exact frY rfl (o_eqP rfl (ev_tmp h7) rfl rfl)
  revert hs hd h0 h1 h2 h6 h7; refine frM5 ?_; intro a hs hd h0 h1 h2 h6 h7 h9
  refine opL 1 8 (v := .bool false) (w' := w) (by kernel_rfl) (frZ hs) ?_ ?_
  · exact frY rfl (k_assign rfl (ev_tmp h9))
  clear h9; revert hs hd h0 h1 h2 h6 h7; refine frM5 ?_; intro a hs hd h0 h1 h2 h6 h7 h8
  refine wp_cond_false (ev_tmp h8) ?_
  refine wp_seq ?_
  refine wp_region (show wpOps _ _ _ [0, 1] _ _ from ?_)
  refine opL 0 19 (v := .bool false) (w' := w) (by kernel_rfl) (frZ hs) ?_ ?_
  · exact frY rfl (o_eqP rfl (ev_tmp h7) rfl rfl)
  revert hs hd h0 h1 h2 h6 h7 h8; refine frM6 ?_; intro a hs hd h0 h1 h2 h6 h7 h8 h19
  refine opL 1 18 (v := .bool false) (w' := w) (by kernel_rfl) (frZ hs) ?_ ?_
  · exact frY rfl (k_assign rfl (ev_tmp h19))
  clear h19; revert hs hd h0 h1 h2 h6 h7 h8; refine frM6 ?_; intro a hs hd h0 h1 h2 h6 h7 h8 h18
  refine wp_cond_false (ev_tmp h18) ?_
  refine wp_seq ?_
  refine wp_region (show wpOps _ _ _ [0, 1] _ _ from ?_)
  refine opL 0 29 (v := .bool false) (w' := w) (by kernel_rfl) (frZ hs) ?_ ?_
  · exact frY rfl (o_eqP rfl (ev_tmp h7) rfl rfl)
  revert hs hd h0 h1 h2 h6 h7 h8 h18; refine frM7 ?_; intro a hs hd h0 h1 h2 h6 h7 h8 h18 h29
  refine opL 1 28 (v := .bool false) (w' := w) (by kernel_rfl) (frZ hs) ?_ ?_
  · exact frY rfl (k_assign rfl (ev_tmp h29))
  clear h29; revert hs hd h0 h1 h2 h6 h7 h8 h18; refine frM7 ?_; intro a hs hd h0 h1 h2 h6 h7 h8 h18 h28
  refine wp_cond_false (ev_tmp h28) ?_
  refine wp_seq ?_
  refine wp_region (show wpOps _ _ _ [0, 1] _ _ from ?_)
  refine opL 0 39 (v := .bool false) (w' := w) (by kernel_rfl) (frZ hs) ?_ ?_
  · exact frY rfl (o_eqP rfl (ev_tmp h7) rfl rfl)
  revert hs hd h0 h1 h2 h6 h7 h8 h18 h28; refine frM8 ?_; intro a hs hd h0 h1 h2 h6 h7 h8 h18 h28 h39
  refine opL 1 38 (v := .bool false) (w' := w) (by kernel_rfl) (frZ hs) ?_ ?_
  · exact frY rfl (k_assign rfl (ev_tmp h39))
  clear h39; revert hs hd h0 h1 h2 h6 h7 h8 h18 h28; refine frM8 ?_; intro a hs hd h0 h1 h2 h6 h7 h8 h18 h28 h38
  refine wp_cond_false (ev_tmp h38) ?_
  refine wp_seq ?_
  refine wp_region (show wpOps _ _ _ [0, 1] _ _ from ?_)
  refine opL 0 49 (v := .bool false) (w' := w) (by kernel_rfl) (frZ hs) ?_ ?_
  · exact frY rfl (o_eqP rfl (ev_tmp h7) rfl rfl)
  revert hs hd h0 h1 h2 h6 h7 h8 h18 h28 h38; refine frM9 ?_; intro a hs hd h0 h1 h2 h6 h7 h8 h18 h28 h38 h49
  refine opL 1 48 (v := .bool false) (w' := w) (by kernel_rfl) (frZ hs) ?_ ?_
  · exact frY rfl (k_assign rfl (ev_tmp h49))
  clear h49; revert hs hd h0 h1 h2 h6 h7 h8 h18 h28 h38; refine frM9 ?_; intro a hs hd h0 h1 h2 h6 h7 h8 h18 h28 h38 h48
  refine wp_cond_false (ev_tmp h48) ?_
  refine wp_seq ?_
  refine wp_region (show wpOps _ _ _ [0, 1] _ _ from ?_)
  refine opL 0 59 (v := .bool true) (w' := w) (by kernel_rfl) (frZ hs) ?_ ?_
  · exact frY rfl (o_eqP rfl (ev_tmp h7) rfl rfl)
  revert hs hd h0 h1 h2 h6 h7 h8 h18 h28 h38 h48; refine frM10 ?_; intro a hs hd h0 h1 h2 h6 h7 h8 h18 h28 h38 h48 h59
  refine opL 1 58 (v := .bool true) (w' := w) (by kernel_rfl) (frZ hs) ?_ ?_
  · exact frY rfl (k_assign rfl (ev_tmp h59))
  clear h59; revert hs hd h0 h1 h2 h6 h7 h8 h18 h28 h38 h48; refine frM10 ?_; intro a hs hd h0 h1 h2 h6 h7 h8 h18 h28 h38 h48 h58
  refine wp_cond_true (ev_tmp h58) ?_
  refine wp_region (show wpOps _ _ _ [0, 1, 2, 3, 4, 5, 6, 7, 8, 9] _ _ from ?_)
  refine opL 0 61 (v := .pointer (some ⟨rb, 0, none⟩)) (w' := w) (by kernel_rfl) (frZ hs) ?_ ?_
  · exact frY rfl (k_move rfl (ev_tmp h0))
  revert hs hd h0 h1 h2 h6 h7 h8 h18 h28 h38 h48 h58; refine frM11 ?_; intro a hs hd h0 h1 h2 h6 h7 h8 h18 h28 h38 h48 h58 h61
  refine opL 1 62 (v := .string ⟨s.toArray⟩) (w' := w) (by kernel_rfl) (frZ hs) ?_ ?_
  · exact frY rfl (k_move rfl (ev_tmp h2))
  revert hs hd h0 h1 h2 h6 h7 h8 h18 h28 h38 h48 h58 h61; refine frM12 ?_; intro a hs hd h0 h1 h2 h6 h7 h8 h18 h28 h38 h48 h58 h61 h62
  have hc := psI_any s w hT hl
  have hx := fun ops Q rest d a i h1 h2 h3 => opL_call (P := Tryz.prog) (ops := ops) (Q := Q) (a := a) (w := w) (rest := rest) i d h1 h2 h3 hc
  refine hx _ _ _ 63 _ 2 ?z841a ?z841b ?z841 ?z842
  case z841a => kernel_rfl
  case z841b => (rw [hs]; decide)
  case z841 => exact frY rfl (c_plI rfl rfl rfl (ev_tmp h62))
  case z842 =>
  rintro v0 w1 a ⟨hLv, l1⟩ F0
  obtain rfl : v0 = .tuple #[.slice none 0 0, .bool false] := by
    unfold LI at hLv
    rw [hL] at hLv
    exact hLv
  clear hLv
  replace hs := F0.z.trans hs
  replace hd := F0.e.trans hd
  replace h0 := (F0.n 0 (by decide)).trans h0
  replace h1 := (F0.n 1 (by decide)).trans h1
  replace h2 := (F0.n 2 (by decide)).trans h2
  replace h6 := (F0.n 6 (by decide)).trans h6
  replace h7 := (F0.n 7 (by decide)).trans h7
  replace h8 := (F0.n 8 (by decide)).trans h8
  replace h18 := (F0.n 18 (by decide)).trans h18
  replace h28 := (F0.n 28 (by decide)).trans h28
  replace h38 := (F0.n 38 (by decide)).trans h38
  replace h48 := (F0.n 48 (by decide)).trans h48
  replace h58 := (F0.n 58 (by decide)).trans h58
  replace h61 := (F0.n 61 (by decide)).trans h61
  clear h62
  have h63 := F0.s
  clear F0
  clear hx hc
  have B1 := hB.below l1 hB.lt
  refine opL 3 60 (v := .tuple #[.slice none 0 0, .bool false]) (w' := w1) (by kernel_rfl) (frZ hs) ?_ ?_
  · exact frY rfl (k_move rfl (ev_tmp h63))
  refine frN12 hs hd h0 h1 h2 h6 h7 h8 h18 h28 h38 h48 h58 h61 ?_; clear hs hd h0 h1 h2 h6 h7 h8 h18 h28 h38 h48 h58 h61 h63; intro a hs hd h0 h1 h2 h6 h7 h8 h18 h28 h38 h48 h58 h61 h60
  refine opL 4 64 (v := .slice none 0 0) (w' := w1) (by kernel_rfl) (frZ hs) ?_ ?_
  · exact frY rfl (k_extract rfl (ev_tmp h60) rfl)
  revert hs hd h0 h1 h2 h6 h7 h8 h18 h28 h38 h48 h58 h61 h60; refine frM13 ?_; intro a hs hd h0 h1 h2 h6 h7 h8 h18 h28 h38 h48 h58 h61 h60 h64
  refine opL 5 65 (v := .bool false) (w' := w1) (by kernel_rfl) (frZ hs) ?_ ?_
  · exact frY rfl (k_extract rfl (ev_tmp h60) rfl)
  clear h60; revert hs hd h0 h1 h2 h6 h7 h8 h18 h28 h38 h48 h58 h61 h64; refine frM13 ?_; intro a hs hd h0 h1 h2 h6 h7 h8 h18 h28 h38 h48 h58 h61 h64 h65
  refine opL 6 66 (v := .pointer (some ⟨rb, 0, none⟩)) (w' := w1) (by kernel_rfl) (frZ hs) ?_ ?_
  · exact frY rfl (k_nil rfl (ev_tmp h61))
  clear h61; revert hs hd h0 h1 h2 h6 h7 h8 h18 h28 h38 h48 h58 h64 h65; refine frM13 ?_; intro a hs hd h0 h1 h2 h6 h7 h8 h18 h28 h38 h48 h58 h64 h65 h66
  refine opL 7 67 (v := .pointer (some ⟨rb, 5, none⟩)) (w' := w1) (by kernel_rfl) (frZ hs) ?_ ?_
  · exact frY rfl (k_field5 rfl (ev_tmp h66))
  clear h66; revert hs hd h0 h1 h2 h6 h7 h8 h18 h28 h38 h48 h58 h64 h65; refine frM13 ?_; intro a hs hd h0 h1 h2 h6 h7 h8 h18 h28 h38 h48 h58 h64 h65 h67
  refine opL_store 8 (w' := (w1.setCell ⟨rb, 5, none⟩ (.slice none 0 0))) (by kernel_rfl) ?_ ?_
  · exact frY rfl (k_storeL rfl (ev_tmp h67) (ev_tmp h64) B1 (by omega))
  clear h64
  clear h67
  obtain ⟨w2, hw2⟩ : ∃ wn, wn = w1.setCell ⟨rb, 5, none⟩ (.slice none 0 0) := ⟨_, rfl⟩
  rw [← hw2]
  have B2 : Blk w2 rb 36 (cs.setIfInBounds 5 (.slice none 0 0)) := by rw [hw2]; exact B1.set 5 _
  have e2 : ∀ B, Exc B rb w1 w2 := by rw [hw2]; exact exc_set w1 rb 5 _
  clear hw2
  have ee : Exc w.heap.size rb w w2 := (Exc.of l1).trans (e2 _)
  refine opL 9 6 (v := .bool false) (w' := w2) (by kernel_rfl) (frZ hs) ?_ ?_
  · exact frY rfl (k_assign rfl (ev_tmp h65))
  refine frN10 hs hd h0 h1 h2 h7 h8 h18 h28 h38 h48 h58 ?_; clear hs hd h0 h1 h2 h7 h8 h18 h28 h38 h48 h58 h6 h65; intro a hs hd h0 h1 h2 h7 h8 h18 h28 h38 h48 h58 h6
  refine wp_seq ?_
  refine wp_region (show wpOps _ _ _ [0, 1] _ _ from ?_)
  refine opL 0 88 (v := .bool false) (w' := w2) (by kernel_rfl) (frZ hs) ?_ ?_
  · exact frY rfl (k_move rfl (ev_tmp h6))
  revert hs hd h0 h1 h2 h7 h8 h18 h28 h38 h48 h58 h6; refine frM11 ?_; intro a hs hd h0 h1 h2 h7 h8 h18 h28 h38 h48 h58 h6 h88
  refine opL 1 6 (v := .bool false) (w' := w2) (by kernel_rfl) (frZ hs) ?_ ?_
  · exact frY rfl (k_assign rfl (ev_tmp h88))
  clear h6 h88; revert hs hd h0 h1 h2 h7 h8 h18 h28 h38 h48 h58; refine frM10 ?_; intro a hs hd h0 h1 h2 h7 h8 h18 h28 h38 h48 h58 h6
  refine wp_ret ?_
  refine hfin a _ ?_
  exact ⟨hd, _, results_tmp rfl _ _ _, _, rfl, h6, B2, ee⟩

set_option maxRecDepth 100000 in
set_option maxHeartbeats 1000000 in
theorem sv_6_yes (rb : Nat) (cs : Array Value) (h8 : cs.size = 8) (s : List UInt8) (w : World) (hT : Tabs w) (hl : s.length ≤ 100000) (hB : Blk w rb 36 cs) (L : List (Int × Int)) (hL : Rfc.plistN s = some L) :
    Calls Tryz.prog 30 #[.pointer (some ⟨rb, 0, none⟩), .int .i64 6, .string ⟨s.toArray⟩] w fun e w' => ∃ v, e = .returned v ∧ (∃ A cap, v = .bool true ∧ OwnN w' w.heap.size (.slice A L.length cap) L ∧ Blk w' rb 36 (cs.setIfInBounds 6 (.slice A L.length cap)) ∧ Exc w.heap.size rb w w') := by
  refine calls_of_wp Tryz.func30 (show Tryz.f30.body = some svBody from rfl) ?_
  generalize hAA : (Act.mk (#[.pointer (some ⟨rb, 0, none⟩), .int .i64 6, .string ⟨s.toArray⟩] ++ Array.replicate (Tryz.f30.ntmps - (#[.pointer (some ⟨rb, 0, none⟩), .int .i64 6, .string ⟨s.toArray⟩] : Array Value).size) undef) []) = a
  have hs : a.tmps.size = 89 := by rw [← hAA]; simp [Tryz.ntmps30]
  have hd : a.defers = [] := by rw [← hAA]
  have h0 : a.tmps.getD 0 undef = .pointer (some ⟨rb, 0, none⟩) := by rw [← hAA]; simp
  have h1 : a.tmps.getD 1 undef = .int .i64 6 := by rw [← hAA]; simp
  have h2 : a.tmps.getD 2 undef = .string ⟨s.toArray⟩ := by rw [← hAA]; simp
  clear hAA
  suffices hq : ∀ Q : Exit → Act → World → Prop, (∀ (a' : Act) (w' : World), (bodyPost Tryz.prog Tryz.f30 fun e w' => ∃ v, e = .returned v ∧ (∃ A cap, v = .bool true ∧ OwnN w' w.heap.size (.slice A L.length cap) L ∧ Blk w' rb 36 (cs.setIfInBounds 6 (.slice A L.length cap)) ∧ Exc w.heap.size rb w w')) .ret a' w' → Q .ret a' w') → svBody.wp Tryz.prog Q a w from hq _ (fun _ _ h => h)
  intro Q hfin
  unfold svBody
  conv => arg 2; whnf
  refine wp_seq ?_
  refine wp_region (show wpOps _ _ _ [0] _ _ from ?_)
  refine opL 0 6 (v := .bool false) (w' := w) (by kernel_rfl) (frZ hs) ?_ ?_
  · exact frY rfl (k_assign rfl rfl)
  refine frN3 hs hd h0 h1 h2 ?_; clear hs hd h0 h1 h2; intro a hs hd h0 h1 h2 h6
  refine wp_seq ?_
  refine wp_seq ?_
  refine wp_region (show wpOps _ _ _ [0] _ _ from ?_)
  refine opL 0 7 (v := .int .i64 6) (w' := w) (by kernel_rfl) (frZ hs) ?_ ?_
  · exact frY rfl (k_move rfl (ev_tmp h1))
  revert hs hd h0 h1 h2 h6; refine frM4 ?_; intro a hs hd h0 h1 h2 h6 h7
  refine wp_block ?_
  refine wp_seq ?_
  refine wp_region (show wpOps _ _ _ [0, 1] _ _ from ?_)
  refine opL 0 9 (v := .bool false) (w' := w) (by kernel_rfl) (frZ hs) ?_ ?_
  · exact frY rfl (o_eqP rfl (ev_tmp h7) rfl rfl)
  revert hs hd h0 h1 h2 h6 h7; refine frM5 ?_; intro a hs hd h0 h1 h2 h6 h7 h9
  refine opL 1 8 (v := .bool false) (w' := w) (by kernel_rfl) (frZ hs) ?_ ?_
  · exact frY rfl (k_assign rfl (ev_tmp h9))
  clear h9; revert hs hd h0 h1 h2 h6 h7; refine frM5 ?_; intro a hs hd h0 h1 h2 h6 h7 h8
  refine wp_cond_false (ev_tmp h8) ?_
  refine wp_seq ?_
  refine wp_region (show wpOps _ _ _ [0, 1] _ _ from ?_)
  refine opL 0 19 (v := .bool false) (w' := w) (by kernel_rfl) (frZ hs) ?_ ?_
  · exact frY rfl (o_eqP rfl (ev_tmp h7) rfl rfl)
  revert hs hd h0 h1 h2 h6 h7 h8; refine frM6 ?_; intro a hs hd h0 h1 h2 h6 h7 h8 h19
  refine opL 1 18 (v := .bool false) (w' := w) (by kernel_rfl) (frZ hs) ?_ ?_
  · exact frY rfl (k_assign rfl (ev_tmp h19))
  clear h19; revert hs hd h0 h1 h2 h6 h7 h8; refine frM6 ?_; intro a hs hd h0 h1 h2 h6 h7 h8 h18
  refine wp_cond_false (ev_tmp h18) ?_
  refine wp_seq ?_
  refine wp_region (show wpOps _ _ _ [0, 1] _ _ from ?_)
  refine opL 0 29 (v := .bool false) (w' := w) (by kernel_rfl) (frZ hs) ?_ ?_
  · exact frY rfl (o_eqP rfl (ev_tmp h7) rfl rfl)
  revert hs hd h0 h1 h2 h6 h7 h8 h18; refine frM7 ?_; intro a hs hd h0 h1 h2 h6 h7 h8 h18 h29
  refine opL 1 28 (v := .bool false) (w' := w) (by kernel_rfl) (frZ hs) ?_ ?_
  · exact frY rfl (k_assign rfl (ev_tmp h29))
  clear h29; revert hs hd h0 h1 h2 h6 h7 h8 h18; refine frM7 ?_; intro a hs hd h0 h1 h2 h6 h7 h8 h18 h28
  refine wp_cond_false (ev_tmp h28) ?_
  refine wp_seq ?_
  refine wp_region (show wpOps _ _ _ [0, 1] _ _ from ?_)
  refine opL 0 39 (v := .bool false) (w' := w) (by kernel_rfl) (frZ hs) ?_ ?_
  · exact frY rfl (o_eqP rfl (ev_tmp h7) rfl rfl)
  revert hs hd h0 h1 h2 h6 h7 h8 h18 h28; refine frM8 ?_; intro a hs hd h0 h1 h2 h6 h7 h8 h18 h28 h39
  refine opL 1 38 (v := .bool false) (w' := w) (by kernel_rfl) (frZ hs) ?_ ?_
  · exact frY rfl (k_assign rfl (ev_tmp h39))
  clear h39; revert hs hd h0 h1 h2 h6 h7 h8 h18 h28; refine frM8 ?_; intro a hs hd h0 h1 h2 h6 h7 h8 h18 h28 h38
  refine wp_cond_false (ev_tmp h38) ?_
  refine wp_seq ?_
  refine wp_region (show wpOps _ _ _ [0, 1] _ _ from ?_)
  refine opL 0 49 (v := .bool false) (w' := w) (by kernel_rfl) (frZ hs) ?_ ?_
  · exact frY rfl (o_eqP rfl (ev_tmp h7) rfl rfl)
  revert hs hd h0 h1 h2 h6 h7 h8 h18 h28 h38; refine frM9 ?_; intro a hs hd h0 h1 h2 h6 h7 h8 h18 h28 h38 h49
  refine opL 1 48 (v := .bool false) (w' := w) (by kernel_rfl) (frZ hs) ?_ ?_
  · exact frY rfl (k_assign rfl (ev_tmp h49))
  clear h49; revert hs hd h0 h1 h2 h6 h7 h8 h18 h28 h38; refine frM9 ?_; intro a hs hd h0 h1 h2 h6 h7 h8 h18 h28 h38 h48
  refine wp_cond_false (ev_tmp h48) ?_
  refine wp_seq ?_
  refine wp_region (show wpOps _ _ _ [0, 1] _ _ from ?_)
  refine opL 0 59 (v := .bool false) (w' := w) (by kernel_rfl) (frZ hs) ?_ ?_
  · exact frY rfl (o_eqP rfl (ev_tmp h7) rfl rfl)
  revert hs hd h0 h1 h2 h6 h7 h8 h18 h28 h38 h48; refine frM10 ?_; intro a hs hd h0 h1 h2 h6 h7 h8 h18 h28 h38 h48 h59
  refine opL 1 58 (v := .bool false) (w' := w) (by kernel_rfl) (frZ hs) ?_ ?_
  · exact frY rfl (k_assign rfl (ev_tmp h59))
  clear h59; revert hs hd h0 h1 h2 h6 h7 h8 h18 h28 h38 h48; refine frM10 ?_; intro a hs hd h0 h1 h2 h6 h7 h8 h18 h28 h38 h48 h58
  refine wp_cond_false (ev_tmp h58) ?_
  refine wp_seq ?_
  refine wp_region (show wpOps _ _ _ [0, 1] _ _ from ?_)
  refine opL 0 69 (v := .bool true) (w' := w) (by kernel_rfl) (frZ hs) ?_ ?_
  · exact frY rfl (o_eqP rfl (ev_tmp h7) rfl rfl)
  revert hs hd h0 h1 h2 h6 h7 h8 h18 h28 h38 h48 h58; refine frM11 ?_; intro a hs hd h0 h1 h2 h6 h7 h8 h18 h28 h38 h48 h58 h69
  refine opL 1 68 (v := .bool true) (w' := w) (by kernel_rfl) (frZ hs) ?_ ?_
  · exact frY rfl (k_assign rfl (ev_tmp h69))
  clear h69; revert hs hd h0 h1 h2 h6 h7 h8 h18 h28 h38 h48 h58; refine frM11 ?_; intro a hs hd h0 h1 h2 h6 h7 h8 h18 h28 h38 h48 h58 h68
  refine wp_cond_true (ev_tmp h68) ?_
  refine wp_region (show wpOps _ _ _ [0, 1, 2, 3, 4, 5, 6, 7, 8, 9] _ _ from ?_)
  refine opL 0 71 (v := .pointer (some ⟨rb, 0, none⟩)) (w' := w) (by kernel_rfl) (frZ hs) ?_ ?_
  · exact frY rfl (k_move rfl (ev_tmp h0))
  revert hs hd h0 h1 h2 h6 h7 h8 h18 h28 h38 h48 h58 h68; refine frM12 ?_; intro a hs hd h0 h1 h2 h6 h7 h8 h18 h28 h38 h48 h58 h68 h71
  refine opL 1 72 (v := .string ⟨s.toArray⟩) (w' := w) (by kernel_rfl) (frZ hs) ?_ ?_
  · exact frY rfl (k_move rfl (ev_tmp h2))
  revert hs hd h0 h1 h2 h6 h7 h8 h18 h28 h38 h48 h58 h68 h71; refine frM13 ?_; intro a hs hd h0 h1 h2 h6 h7 h8 h18 h28 h38 h48 h58 h68 h71 h72
  have hc := psN_any s w hT hl
  have hx := fun ops Q rest d a i h1 h2 h3 => opL_call (P := Tryz.prog) (ops := ops) (Q := Q) (a := a) (w := w) (rest := rest) i d h1 h2 h3 hc
  refine hx _ _ _ 73 _ 2 ?z897a ?z897b ?z897 ?z898
  case z897a => kernel_rfl
  case z897b => (rw [hs]; decide)
  case z897 => exact frY rfl (c_plN rfl rfl rfl (ev_tmp h72))
  case z898 =>
  rintro v0 w1 a ⟨hLv, l1⟩ F0
  obtain ⟨A, cap, rfl, hO⟩ : ∃ A cap, v0 = .tuple #[.slice A L.length cap, .bool true] ∧ OwnN w1 w.heap.size (.slice A L.length cap) L := by
    unfold LN at hLv
    rw [hL] at hLv
    exact hLv
  clear hLv
  replace hs := F0.z.trans hs
  replace hd := F0.e.trans hd
  replace h0 := (F0.n 0 (by decide)).trans h0
  replace h1 := (F0.n 1 (by decide)).trans h1
  replace h2 := (F0.n 2 (by decide)).trans h2
  replace h6 := (F0.n 6 (by decide)).trans h6
  replace h7 := (F0.n 7 (by decide)).trans h7
  replace h8 := (F0.n 8 (by decide)).trans h8
  replace h18 := (F0.n 18 (by decide)).trans h18
  replace h28 := (F0.n 28 (by decide)).trans h28
  replace h38 := (F0.n 38 (by decide)).trans h38
  replace h48 := (F0.n 48 (by decide)).trans h48
  replace h58 := (F0.n 58 (by decide)).trans h58
  replace h68 := (F0.n 68 (by decide)).trans h68
  replace h71 := (F0.n 71 (by decide)).trans h71
  clear h72
  have h73 := F0.s
  clear F0
  clear hx hc
  have B1 := hB.below l1 hB.lt
  refine opL 3 70 (v := .tuple #[.slice A L.length cap, .bool true]) (w' := w1) (by kernel_rfl) (frZ hs) ?_ ?_
  · exact frY rfl (k_move rfl (ev_tmp h73))
  refine frN13 hs hd h0 h1 h2 h6 h7 h8 h18 h28 h38 h48 h58 h68 h71 ?_; clear hs hd h0 h1 h2 h6 h7 h8 h18 h28 h38 h48 h58 h68 h71 h73; intro a hs hd h0 h1 h2 h6 h7 h8 h18 h28 h38 h48 h58 h68 h71 h70
  refine opL 4 74 (v := .slice A L.length cap) (w' := w1) (by kernel_rfl) (frZ hs) ?_ ?_
  · exact frY rfl (k_extract rfl (ev_tmp h70) rfl)
  revert hs hd h0 h1 h2 h6 h7 h8 h18 h28 h38 h48 h58 h68 h71 h70; refine frM14 ?_; intro a hs hd h0 h1 h2 h6 h7 h8 h18 h28 h38 h48 h58 h68 h71 h70 h74
  refine opL 5 75 (v := .bool true) (w' := w1) (by kernel_rfl) (frZ hs) ?_ ?_
  · exact frY rfl (k_extract rfl (ev_tmp h70) rfl)
  clear h70; revert hs hd h0 h1 h2 h6 h7 h8 h18 h28 h38 h48 h58 h68 h71 h74; refine frM14 ?_; intro a hs hd h0 h1 h2 h6 h7 h8 h18 h28 h38 h48 h58 h68 h71 h74 h75
  refine opL 6 76 (v := .pointer (some ⟨rb, 0, none⟩)) (w' := w1) (by kernel_rfl) (frZ hs) ?_ ?_
  · exact frY rfl (k_nil rfl (ev_tmp h71))
  clear h71; revert hs hd h0 h1 h2 h6 h7 h8 h18 h28 h38 h48 h58 h68 h74 h75; refine frM14 ?_; intro a hs hd h0 h1 h2 h6 h7 h8 h18 h28 h38 h48 h58 h68 h74 h75 h76
  refine opL 7 77 (v := .pointer (some ⟨rb, 6, none⟩)) (w' := w1) (by kernel_rfl) (frZ hs) ?_ ?_
  · exact frY rfl (k_field6 rfl (ev_tmp h76))
  clear h76; revert hs hd h0 h1 h2 h6 h7 h8 h18 h28 h38 h48 h58 h68 h74 h75; refine frM14 ?_; intro a hs hd h0 h1 h2 h6 h7 h8 h18 h28 h38 h48 h58 h68 h74 h75 h77
  refine opL_store 8 (w' := (w1.setCell ⟨rb, 6, none⟩ (.slice A L.length cap))) (by kernel_rfl) ?_ ?_
  · exact frY rfl (k_storeW rfl (ev_tmp h77) (ev_tmp h74) B1 (by omega))
  clear h74
  clear h77
  obtain ⟨w2, hw2⟩ : ∃ wn, wn = w1.setCell ⟨rb, 6, none⟩ (.slice A L.length cap) := ⟨_, rfl⟩
  rw [← hw2]
  have B2 : Blk w2 rb 36 (cs.setIfInBounds 6 (.slice A L.length cap)) := by rw [hw2]; exact B1.set 6 _
  have e2 : ∀ B, Exc B rb w1 w2 := by rw [hw2]; exact exc_set w1 rb 6 _
  clear hw2
  have ee : Exc w.heap.size rb w w2 := (Exc.of l1).trans (e2 _)
  refine opL 9 6 (v := .bool true) (w' := w2) (by kernel_rfl) (frZ hs) ?_ ?_
  · exact frY rfl (k_assign rfl (ev_tmp h75))
  refine frN11 hs hd h0 h1 h2 h7 h8 h18 h28 h38 h48 h58 h68 ?_; clear hs hd h0 h1 h2 h7 h8 h18 h28 h38 h48 h58 h68 h6 h75; intro a hs hd h0 h1 h2 h7 h8 h18 h28 h38 h48 h58 h68 h6
  refine wp_seq ?_
  refine wp_region (show wpOps _ _ _ [0, 1] _ _ from ?_)
  refine opL 0 88 (v := .bool true) (w' := w2) (by kernel_rfl) (frZ hs) ?_ ?_
  · exact frY rfl (k_move rfl (ev_tmp h6))
  revert hs hd h0 h1 h2 h7 h8 h18 h28 h38 h48 h58 h68 h6; refine frM12 ?_; intro a hs hd h0 h1 h2 h7 h8 h18 h28 h38 h48 h58 h68 h6 h88
  refine opL 1 6 (v := .bool true) (w' := w2) (by kernel_rfl) (frZ hs) ?_ ?_
  · exact frY rfl (k_assign rfl (ev_tmp h88))
  clear h6 h88; revert hs hd h0 h1 h2 h7 h8 h18 h28 h38 h48 h58 h68; refine frM11 ?_; intro a hs hd h0 h1 h2 h7 h8 h18 h28 h38 h48 h58 h68 h6
  refine wp_ret ?_
  refine hfin a _ ?_
  exact ⟨hd, _, results_tmp rfl _ _ _, _, rfl, A, cap, h6, hO.exc (e2 w1.heap.size) (fun g hg => ⟨(hO.lt g hg).2, by have := (hO.lt g hg).1; have := hB.lt; omega⟩), B2, ee⟩

set_option maxRecDepth 100000 in
set_option maxHeartbeats 1000000 in
theorem sv_6_no (rb : Nat) (cs : Array Value) (h8 : cs.size = 8) (s : List UInt8) (w : World) (hT : Tabs w) (hl : s.length ≤ 100000) (hB : Blk w rb 36 cs) (hL : Rfc.plistN s = none) :
    Calls Tryz.prog 30 #[.pointer (some ⟨rb, 0, none⟩), .int .i64 6, .string ⟨s.toArray⟩] w fun e w' => ∃ v, e = .returned v ∧ (v = .bool false ∧ Blk w' rb 36 (cs.setIfInBounds 6 (.slice none 0 0)) ∧ Exc w.heap.size rb w w') := by
  refine calls_of_wp Tryz.func30 (show Tryz.f30.body = some svBody from rfl) ?_
  generalize hAA : (Act.mk (#[.pointer (some ⟨rb, 0, none⟩), .int .i64 6, .string ⟨s.toArray⟩] ++ Array.replicate (Tryz.f30.ntmps - (#[.pointer (some ⟨rb, 0, none⟩), .int .i64 6, .string ⟨s.toArray⟩] : Array Value).size) undef) []) = a
  have hs : a.tmps.size = 89 := by rw [← hAA]; simp [Tryz.ntmps30]
  have hd : a.defers = [] := by rw [← hAA]
  have h0 : a.tmps.getD 0 undef = .pointer (some ⟨rb, 0, none⟩) := by rw [← hAA]; simp
  have h1 : a.tmps.getD 1 undef = .int .i64 6 := by rw [← hAA]; simp
  have h2 : a.tmps.getD 2 undef = .string ⟨s.toArray⟩ := by rw [← hAA]; simp
  clear hAA
  suffices hq : ∀ Q : Exit → Act → World → Prop, (∀ (a' : Act) (w' : World), (bodyPost Tryz.prog Tryz.f30 fun e w' => ∃ v, e = .returned v ∧ (v = .bool false ∧ Blk w' rb 36 (cs.setIfInBounds 6 (.slice none 0 0)) ∧ Exc w.heap.size rb w w')) .ret a' w' → Q .ret a' w') → svBody.wp Tryz.prog Q a w from hq _ (fun _ _ h => h)
  intro Q hfin
  unfold svBody
  conv => arg 2; whnf
  refine wp_seq ?_
  refine wp_region (show wpOps _ _ _ [0] _ _ from ?_)
  refine opL 0 6 (v := .bool false) (w' := w) (by kernel_rfl) (frZ hs) ?_ ?_
  · exact frY rfl (k_assign rfl rfl)
  refine frN3 hs hd h0 h1 h2 ?_; clear hs hd h0 h1 h2; intro a hs hd h0 h1 h2 h6
  refine wp_seq ?_
  refine wp_seq ?_
  refine wp_region (show wpOps _ _ _ [0] _ _ from ?_)
  refine opL 0 7 (v := .int .i64 6) (w' := w) (by kernel_rfl) (frZ hs) ?_ ?_
  · exact frY rfl (k_move rfl (ev_tmp h1))
  revert hs hd h0 h1 h2 h6; refine frM4 ?_; intro a hs hd h0 h1 h2 h6 h7
  refine wp_block ?_
  refine wp_seq ?_
  refine wp_region (show wpOps _ _ _ [0, 1] _ _ from ?_)
  refine opL 0 9 (v := .bool false) (w' := w) (by kernel_rfl) (frZ hs) ?_ ?_
  · exact frY rfl (o_eqP rfl (ev_tmp h7) rfl rfl)
  revert hs hd h0 h1 h2 h6 h7; refine frM5 ?_; intro a hs hd h0 h1 h2 h6 h7 h9
  refine opL 1 8 (v := .bool false) (w' := w) (by kernel_rfl) (frZ hs) ?_ ?_
  · exact frY rfl (k_assign rfl (ev_tmp h9))
  clear h9; revert hs hd h0 h1 h2 h6 h7; refine frM5 ?_; intro a hs hd h0 h1 h2 h6 h7 h8
  refine wp_cond_false (ev_tmp h8) ?_
  refine wp_seq ?_
  refine wp_region (show wpOps _ _ _ [0, 1] _ _ from ?_)
  refine opL 0 19 (v := .bool false) (w' := w) (by kernel_rfl) (frZ hs) ?_ ?_
  · exact frY rfl (o_eqP rfl (ev_tmp h7) rfl rfl)
  revert hs hd h0 h1 h2 h6 h7 h8; refine frM6 ?_; intro a hs hd h0 h1 h2 h6 h7 h8 h19
  refine opL 1 18 (v := .bool false) (w' := w) (by kernel_rfl) (frZ hs) ?_ ?_
  · exact frY rfl (k_assign rfl (ev_tmp h19))
  clear h19; revert hs hd h0 h1 h2 h6 h7 h8; refine frM6 ?_; intro a hs hd h0 h1 h2 h6 h7 h8 h18
  refine wp_cond_false (ev_tmp h18) ?_
  refine wp_seq ?_
  refine wp_region (show wpOps _ _ _ [0, 1] _ _ from ?_)
  refine opL 0 29 (v := .bool false) (w' := w) (by kernel_rfl) (frZ hs) ?_ ?_
  · exact frY rfl (o_eqP rfl (ev_tmp h7) rfl rfl)
  revert hs hd h0 h1 h2 h6 h7 h8 h18; refine frM7 ?_; intro a hs hd h0 h1 h2 h6 h7 h8 h18 h29
  refine opL 1 28 (v := .bool false) (w' := w) (by kernel_rfl) (frZ hs) ?_ ?_
  · exact frY rfl (k_assign rfl (ev_tmp h29))
  clear h29; revert hs hd h0 h1 h2 h6 h7 h8 h18; refine frM7 ?_; intro a hs hd h0 h1 h2 h6 h7 h8 h18 h28
  refine wp_cond_false (ev_tmp h28) ?_
  refine wp_seq ?_
  refine wp_region (show wpOps _ _ _ [0, 1] _ _ from ?_)
  refine opL 0 39 (v := .bool false) (w' := w) (by kernel_rfl) (frZ hs) ?_ ?_
  · exact frY rfl (o_eqP rfl (ev_tmp h7) rfl rfl)
  revert hs hd h0 h1 h2 h6 h7 h8 h18 h28; refine frM8 ?_; intro a hs hd h0 h1 h2 h6 h7 h8 h18 h28 h39
  refine opL 1 38 (v := .bool false) (w' := w) (by kernel_rfl) (frZ hs) ?_ ?_
  · exact frY rfl (k_assign rfl (ev_tmp h39))
  clear h39; revert hs hd h0 h1 h2 h6 h7 h8 h18 h28; refine frM8 ?_; intro a hs hd h0 h1 h2 h6 h7 h8 h18 h28 h38
  refine wp_cond_false (ev_tmp h38) ?_
  refine wp_seq ?_
  refine wp_region (show wpOps _ _ _ [0, 1] _ _ from ?_)
  refine opL 0 49 (v := .bool false) (w' := w) (by kernel_rfl) (frZ hs) ?_ ?_
  · exact frY rfl (o_eqP rfl (ev_tmp h7) rfl rfl)
  revert hs hd h0 h1 h2 h6 h7 h8 h18 h28 h38; refine frM9 ?_; intro a hs hd h0 h1 h2 h6 h7 h8 h18 h28 h38 h49
  refine opL 1 48 (v := .bool false) (w' := w) (by kernel_rfl) (frZ hs) ?_ ?_
  · exact frY rfl (k_assign rfl (ev_tmp h49))
  clear h49; revert hs hd h0 h1 h2 h6 h7 h8 h18 h28 h38; refine frM9 ?_; intro a hs hd h0 h1 h2 h6 h7 h8 h18 h28 h38 h48
  refine wp_cond_false (ev_tmp h48) ?_
  refine wp_seq ?_
  refine wp_region (show wpOps _ _ _ [0, 1] _ _ from ?_)
  refine opL 0 59 (v := .bool false) (w' := w) (by kernel_rfl) (frZ hs) ?_ ?_
  · exact frY rfl (o_eqP rfl (ev_tmp h7) rfl rfl)
  revert hs hd h0 h1 h2 h6 h7 h8 h18 h28 h38 h48; refine frM10 ?_; intro a hs hd h0 h1 h2 h6 h7 h8 h18 h28 h38 h48 h59
  refine opL 1 58 (v := .bool false) (w' := w) (by kernel_rfl) (frZ hs) ?_ ?_
  · exact frY rfl (k_assign rfl (ev_tmp h59))
  clear h59; revert hs hd h0 h1 h2 h6 h7 h8 h18 h28 h38 h48; refine frM10 ?_; intro a hs hd h0 h1 h2 h6 h7 h8 h18 h28 h38 h48 h58
  refine wp_cond_false (ev_tmp h58) ?_
  refine wp_seq ?_
  refine wp_region (show wpOps _ _ _ [0, 1] _ _ from ?_)
  refine opL 0 69 (v := .bool true) (w' := w) (by kernel_rfl) (frZ hs) ?_ ?_
  · exact frY rfl (o_eqP rfl (ev_tmp h7) rfl rfl)
  revert hs hd h0 h1 h2 h6 h7 h8 h18 h28 h38 h48 h58; refine frM11 ?_; intro a hs hd h0 h1 h2 h6 h7 h8 h18 h28 h38 h48 h58 h69
  refine opL 1 68 (v := .bool true) (w' := w) (by kernel_rfl) (frZ hs) ?_ ?_
  · exact frY rfl (k_assign rfl (ev_tmp h69))
  clear h69; revert hs hd h0 h1 h2 h6 h7 h8 h18 h28 h38 h48 h58; refine frM11 ?_; intro a hs hd h0 h1 h2 h6 h7 h8 h18 h28 h38 h48 h58 h68
  refine wp_cond_true (ev_tmp h68) ?_
  refine wp_region (show wpOps _ _ _ [0, 1, 2, 3, 4, 5, 6, 7, 8, 9] _ _ from ?_)
  refine opL 0 71 (v := .pointer (some ⟨rb, 0, none⟩)) (w' := w) (by kernel_rfl) (frZ hs) ?_ ?_
  · exact frY rfl (k_move rfl (ev_tmp h0))
  revert hs hd h0 h1 h2 h6 h7 h8 h18 h28 h38 h48 h58 h68; refine frM12 ?_; intro a hs hd h0 h1 h2 h6 h7 h8 h18 h28 h38 h48 h58 h68 h71
  refine opL 1 72 (v := .string ⟨s.toArray⟩) (w' := w) (by kernel_rfl) (frZ hs) ?_ ?_
  · exact frY rfl (k_move rfl (ev_tmp h2))
  revert hs hd h0 h1 h2 h6 h7 h8 h18 h28 h38 h48 h58 h68 h71; refine frM13 ?_; intro a hs hd h0 h1 h2 h6 h7 h8 h18 h28 h38 h48 h58 h68 h71 h72
  have hc := psN_any s w hT hl
  have hx := fun ops Q rest d a i h1 h2 h3 => opL_call (P := Tryz.prog) (ops := ops) (Q := Q) (a := a) (w := w) (rest := rest) i d h1 h2 h3 hc
  refine hx _ _ _ 73 _ 2 ?z953a ?z953b ?z953 ?z954
  case z953a => kernel_rfl
  case z953b => (rw [hs]; decide)
  case z953 => exact frY rfl (c_plN rfl rfl rfl (ev_tmp h72))
  case z954 =>
  rintro v0 w1 a ⟨hLv, l1⟩ F0
  obtain rfl : v0 = .tuple #[.slice none 0 0, .bool false] := by
    unfold LN at hLv
    rw [hL] at hLv
    exact hLv
  clear hLv
  replace hs := F0.z.trans hs
  replace hd := F0.e.trans hd
  replace h0 := (F0.n 0 (by decide)).trans h0
  replace h1 := (F0.n 1 (by decide)).trans h1
  replace h2 := (F0.n 2 (by decide)).trans h2
  replace h6 := (F0.n 6 (by decide)).trans h6
  replace h7 := (F0.n 7 (by decide)).trans h7
  replace h8 := (F0.n 8 (by decide)).trans h8
  replace h18 := (F0.n 18 (by decide)).trans h18
  replace h28 := (F0.n 28 (by decide)).trans h28
  replace h38 := (F0.n 38 (by decide)).trans h38
  replace h48 := (F0.n 48 (by decide)).trans h48
  replace h58 := (F0.n 58 (by decide)).trans h58
  replace h68 := (F0.n 68 (by decide)).trans h68
  replace h71 := (F0.n 71 (by decide)).trans h71
  clear h72
  have h73 := F0.s
  clear F0
  clear hx hc
  have B1 := hB.below l1 hB.lt
  refine opL 3 70 (v := .tuple #[.slice none 0 0, .bool false]) (w' := w1) (by kernel_rfl) (frZ hs) ?_ ?_
  · exact frY rfl (k_move rfl (ev_tmp h73))
  refine frN13 hs hd h0 h1 h2 h6 h7 h8 h18 h28 h38 h48 h58 h68 h71 ?_; clear hs hd h0 h1 h2 h6 h7 h8 h18 h28 h38 h48 h58 h68 h71 h73; intro a hs hd h0 h1 h2 h6 h7 h8 h18 h28 h38 h48 h58 h68 h71 h70
  refine opL 4 74 (v := .slice none 0 0) (w' := w1) (by kernel_rfl) (frZ hs) ?_ ?_
  · exact frY rfl (k_extract rfl (ev_tmp h70) rfl)
  revert hs hd h0 h1 h2 h6 h7 h8 h18 h28 h38 h48 h58 h68 h71 h70; refine frM14 ?_; intro a hs hd h0 h1 h2 h6 h7 h8 h18 h28 h38 h48 h58 h68 h71 h70 h74
  refine opL 5 75 (v := .bool false) (w' := w1) (by kernel_rfl) (frZ hs) ?_ ?_
  · exact frY rfl (k_extract rfl (ev_tmp h70) rfl)
  clear h70; revert hs hd h0 h1 h2 h6 h7 h8 h18 h28 h38 h48 h58 h68 h71 h74; refine frM14 ?_; intro a hs hd h0 h1 h2 h6 h7 h8 h18 h28 h38 h48 h58 h68 h71 h74 h75
  refine opL 6 76 (v := .pointer (some ⟨rb, 0, none⟩)) (w' := w1) (by kernel_rfl) (frZ hs) ?_ ?_
  · exact frY rfl (k_nil rfl (ev_tmp h71))
  clear h71; revert hs hd h0 h1 h2 h6 h7 h8 h18 h28 h38 h48 h58 h68 h74 h75; refine frM14 ?_; intro a hs hd h0 h1 h2 h6 h7 h8 h18 h28 h38 h48 h58 h68 h74 h75 h76
  refine opL 7 77 (v := .pointer (some ⟨rb, 6, none⟩)) (w' := w1) (by kernel_rfl) (frZ hs) ?_ ?_
  · exact frY rfl (k_field6 rfl (ev_tmp h76))
  clear h76; revert hs hd h0 h1 h2 h6 h7 h8 h18 h28 h38 h48 h58 h68 h74 h75; refine frM14 ?_; intro a hs hd h0 h1 h2 h6 h7 h8 h18 h28 h38 h48 h58 h68 h74 h75 h77
  refine opL_store 8 (w' := (w1.setCell ⟨rb, 6, none⟩ (.slice none 0 0))) (by kernel_rfl) ?_ ?_
  · exact frY rfl (k_storeW rfl (ev_tmp h77) (ev_tmp h74) B1 (by omega))
  clear h74
  clear h77
  obtain ⟨w2, hw2⟩ : ∃ wn, wn = w1.setCell ⟨rb, 6, none⟩ (.slice none 0 0) := ⟨_, rfl⟩
  rw [← hw2]
  have B2 : Blk w2 rb 36 (cs.setIfInBounds 6 (.slice none 0 0)) := by rw [hw2]; exact B1.set 6 _
  have e2 : ∀ B, Exc B rb w1 w2 := by rw [hw2]; exact exc_set w1 rb 6 _
  clear hw2
  have ee : Exc w.heap.size rb w w2 := (Exc.of l1).trans (e2 _)
  refine opL 9 6 (v := .bool false) (w' := w2) (by kernel_rfl) (frZ hs) ?_ ?_
  · exact frY rfl (k_assign rfl (ev_tmp h75))
  refine frN11 hs hd h0 h1 h2 h7 h8 h18 h28 h38 h48 h58 h68 ?_; clear hs hd h0 h1 h2 h7 h8 h18 h28 h38 h48 h58 h68 h6 h75; intro a hs hd h0 h1 h2 h7 h8 h18 h28 h38 h48 h58 h68 h6
  refine wp_seq ?_
  refine wp_region (show wpOps _ _ _ [0, 1] _ _ from ?_)
  refine opL 0 88 (v := .bool false) (w' := w2) (by kernel_rfl) (frZ hs) ?_ ?_
  · exact frY rfl (k_move rfl (ev_tmp h6))
  revert hs hd h0 h1 h2 h7 h8 h18 h28 h38 h48 h58 h68 h6; refine frM12 ?_; intro a hs hd h0 h1 h2 h7 h8 h18 h28 h38 h48 h58 h68 h6 h88
  refine opL 1 6 (v := .bool false) (w' := w2) (by kernel_rfl) (frZ hs) ?_ ?_
  · exact frY rfl (k_assign rfl (ev_tmp h88))
  clear h6 h88; revert hs hd h0 h1 h2 h7 h8 h18 h28 h38 h48 h58 h68; refine frM11 ?_; intro a hs hd h0 h1 h2 h7 h8 h18 h28 h38 h48 h58 h68 h6
  refine wp_ret ?_
  refine hfin a _ ?_
  exact ⟨hd, _, results_tmp rfl _ _ _, _, rfl, h6, B2, ee⟩

set_option maxRecDepth 100000 in
set_option maxHeartbeats 1000000 in
theorem sv_7_yes (rb : Nat) (cs : Array Value) (h8 : cs.size = 8) (s : List UInt8) (w : World) (hT : Tabs w) (hl : s.length ≤ 100000) (hB : Blk w rb 36 cs) (L : List (Int)) (hL : Rfc.plistI s = some L) :
    Calls Tryz.prog 30 #[.pointer (some ⟨rb, 0, none⟩), .int .i64 7, .string ⟨s.toArray⟩] w fun e w' => ∃ v, e = .returned v ∧ (∃ A cap, v = .bool true ∧ OwnI w' w.heap.size (.slice A L.length cap) L ∧ Blk w' rb 36 (cs.setIfInBounds 7 (.slice A L.length cap)) ∧ Exc w.heap.size rb w w') := by
  refine calls_of_wp Tryz.func30 (show Tryz.f30.body = some svBody from rfl) ?_
  generalize hAA : (Act.mk (#[.pointer (some ⟨rb, 0, none⟩), .int .i64 7, .string ⟨s.toArray⟩] ++ Array.replicate (Tryz.f30.ntmps - (#[.pointer (some ⟨rb, 0, none⟩), .int .i64 7, .string ⟨s.toArray⟩] : Array Value).size) undef) []) = a
  have hs : a.tmps.size = 89 := by rw [← hAA]; simp [Tryz.ntmps30]
  have hd : a.defers = [] := by rw [← hAA]
  have h0 : a.tmps.getD 0 undef = .pointer (some ⟨rb, 0, none⟩) := by rw [← hAA]; simp
  have h1 : a.tmps.getD 1 undef = .int .i64 7 := by rw [← hAA]; simp
  have h2 : a.tmps.getD 2 undef = .string ⟨s.toArray⟩ := by rw [← hAA]; simp
  clear hAA
  suffices hq : ∀ Q : Exit → Act → World → Prop, (∀ (a' : Act) (w' : World), (bodyPost Tryz.prog Tryz.f30 fun e w' => ∃ v, e = .returned v ∧ (∃ A cap, v = .bool true ∧ OwnI w' w.heap.size (.slice A L.length cap) L ∧ Blk w' rb 36 (cs.setIfInBounds 7 (.slice A L.length cap)) ∧ Exc w.heap.size rb w w')) .ret a' w' → Q .ret a' w') → svBody.wp Tryz.prog Q a w from hq _ (fun _ _ h => h)
  intro Q hfin
  unfold svBody
  conv => arg 2; whnf
  refine wp_seq ?_
  refine wp_region (show wpOps _ _ _ [0] _ _ from ?_)
  refine opL 0 6 (v := .bool false) (w' := w) (by kernel_rfl) (frZ hs) ?_ ?_
  · exact frY rfl (k_assign rfl rfl)
  refine frN3 hs hd h0 h1 h2 ?_; clear hs hd h0 h1 h2; intro a hs hd h0 h1 h2 h6
  refine wp_seq ?_
  refine wp_seq ?_
  refine wp_region (show wpOps _ _ _ [0] _ _ from ?_)
  refine opL 0 7 (v := .int .i64 7) (w' := w) (by kernel_rfl) (frZ hs) ?_ ?_
  · exact frY rfl (k_move rfl (ev_tmp h1))
  revert hs hd h0 h1 h2 h6; refine frM4 ?_; intro a hs hd h0 h1 h2 h6 h7
  refine wp_block ?_
  refine wp_seq ?_
  refine wp_region (show wpOps _ _ _ [0, 1] _ _ from ?_)
  refine opL 0 9 (v := .bool false) (w' := w) (by kernel_rfl) (frZ hs) ?_ ?_
  · exact frY rfl (o_eqP rfl (ev_tmp h7) rfl rfl)
  revert hs hd h0 h1 h2 h6 h7; refine frM5 ?_; intro a hs hd h0 h1 h2 h6 h7 h9
  refine opL 1 8 (v := .bool false) (w' := w) (by kernel_rfl) (frZ hs) ?_ ?_
  · exact frY rfl (k_assign rfl (ev_tmp h9))
  clear h9; revert hs hd h0 h1 h2 h6 h7; refine frM5 ?_; intro a hs hd h0 h1 h2 h6 h7 h8
  refine wp_cond_false (ev_tmp h8) ?_
  refine wp_seq ?_
  refine wp_region (show wpOps _ _ _ [0, 1] _ _ from ?_)
  refine opL 0 19 (v := .bool false) (w' := w) (by kernel_rfl) (frZ hs) ?_ ?_
  · exact frY rfl (o_eqP rfl (ev_tmp h7) rfl rfl)
  revert hs hd h0 h1 h2 h6 h7 h8; refine frM6 ?_; intro a hs hd h0 h1 h2 h6 h7 h8 h19
  refine opL 1 18 (v := .bool false) (w' := w) (by kernel_rfl) (frZ hs) ?_ ?_
  · exact frY rfl (k_assign rfl (ev_tmp h19))
  clear h19; revert hs hd h0 h1 h2 h6 h7 h8; refine frM6 ?_; intro a hs hd h0 h1 h2 h6 h7 h8 h18
  refine wp_cond_false (ev_tmp h18) ?_
  refine wp_seq ?_
  refine wp_region (show wpOps _ _ _ [0, 1] _ _ from ?_)
  refine opL 0 29 (v := .bool false) (w' := w) (by kernel_rfl) (frZ hs) ?_ ?_
  · exact frY rfl (o_eqP rfl (ev_tmp h7) rfl rfl)
  revert hs hd h0 h1 h2 h6 h7 h8 h18; refine frM7 ?_; intro a hs hd h0 h1 h2 h6 h7 h8 h18 h29
  refine opL 1 28 (v := .bool false) (w' := w) (by kernel_rfl) (frZ hs) ?_ ?_
  · exact frY rfl (k_assign rfl (ev_tmp h29))
  clear h29; revert hs hd h0 h1 h2 h6 h7 h8 h18; refine frM7 ?_; intro a hs hd h0 h1 h2 h6 h7 h8 h18 h28
  refine wp_cond_false (ev_tmp h28) ?_
  refine wp_seq ?_
  refine wp_region (show wpOps _ _ _ [0, 1] _ _ from ?_)
  refine opL 0 39 (v := .bool false) (w' := w) (by kernel_rfl) (frZ hs) ?_ ?_
  · exact frY rfl (o_eqP rfl (ev_tmp h7) rfl rfl)
  revert hs hd h0 h1 h2 h6 h7 h8 h18 h28; refine frM8 ?_; intro a hs hd h0 h1 h2 h6 h7 h8 h18 h28 h39
  refine opL 1 38 (v := .bool false) (w' := w) (by kernel_rfl) (frZ hs) ?_ ?_
  · exact frY rfl (k_assign rfl (ev_tmp h39))
  clear h39; revert hs hd h0 h1 h2 h6 h7 h8 h18 h28; refine frM8 ?_; intro a hs hd h0 h1 h2 h6 h7 h8 h18 h28 h38
  refine wp_cond_false (ev_tmp h38) ?_
  refine wp_seq ?_
  refine wp_region (show wpOps _ _ _ [0, 1] _ _ from ?_)
  refine opL 0 49 (v := .bool false) (w' := w) (by kernel_rfl) (frZ hs) ?_ ?_
  · exact frY rfl (o_eqP rfl (ev_tmp h7) rfl rfl)
  revert hs hd h0 h1 h2 h6 h7 h8 h18 h28 h38; refine frM9 ?_; intro a hs hd h0 h1 h2 h6 h7 h8 h18 h28 h38 h49
  refine opL 1 48 (v := .bool false) (w' := w) (by kernel_rfl) (frZ hs) ?_ ?_
  · exact frY rfl (k_assign rfl (ev_tmp h49))
  clear h49; revert hs hd h0 h1 h2 h6 h7 h8 h18 h28 h38; refine frM9 ?_; intro a hs hd h0 h1 h2 h6 h7 h8 h18 h28 h38 h48
  refine wp_cond_false (ev_tmp h48) ?_
  refine wp_seq ?_
  refine wp_region (show wpOps _ _ _ [0, 1] _ _ from ?_)
  refine opL 0 59 (v := .bool false) (w' := w) (by kernel_rfl) (frZ hs) ?_ ?_
  · exact frY rfl (o_eqP rfl (ev_tmp h7) rfl rfl)
  revert hs hd h0 h1 h2 h6 h7 h8 h18 h28 h38 h48; refine frM10 ?_; intro a hs hd h0 h1 h2 h6 h7 h8 h18 h28 h38 h48 h59
  refine opL 1 58 (v := .bool false) (w' := w) (by kernel_rfl) (frZ hs) ?_ ?_
  · exact frY rfl (k_assign rfl (ev_tmp h59))
  clear h59; revert hs hd h0 h1 h2 h6 h7 h8 h18 h28 h38 h48; refine frM10 ?_; intro a hs hd h0 h1 h2 h6 h7 h8 h18 h28 h38 h48 h58
  refine wp_cond_false (ev_tmp h58) ?_
  refine wp_seq ?_
  refine wp_region (show wpOps _ _ _ [0, 1] _ _ from ?_)
  refine opL 0 69 (v := .bool false) (w' := w) (by kernel_rfl) (frZ hs) ?_ ?_
  · exact frY rfl (o_eqP rfl (ev_tmp h7) rfl rfl)
  revert hs hd h0 h1 h2 h6 h7 h8 h18 h28 h38 h48 h58; refine frM11 ?_; intro a hs hd h0 h1 h2 h6 h7 h8 h18 h28 h38 h48 h58 h69
  refine opL 1 68 (v := .bool false) (w' := w) (by kernel_rfl) (frZ hs) ?_ ?_
  · exact frY rfl (k_assign rfl (ev_tmp h69))
  clear h69; revert hs hd h0 h1 h2 h6 h7 h8 h18 h28 h38 h48 h58; refine frM11 ?_; intro a hs hd h0 h1 h2 h6 h7 h8 h18 h28 h38 h48 h58 h68
  refine wp_cond_false (ev_tmp h68) ?_
  refine wp_seq ?_
  refine wp_region (show wpOps _ _ _ [0, 1] _ _ from ?_)
  refine opL 0 79 (v := .bool true) (w' := w) (by kernel_rfl) (frZ hs) ?_ ?_
  · exact frY rfl (o_eqP rfl (ev_tmp h7) rfl rfl)
  revert hs hd h0 h1 h2 h6 h7 h8 h18 h28 h38 h48 h58 h68; refine frM12 ?_; intro a hs hd h0 h1 h2 h6 h7 h8 h18 h28 h38 h48 h58 h68 h79
  refine opL 1 78 (v := .bool true) (w' := w) (by kernel_rfl) (frZ hs) ?_ ?_
  · exact frY rfl (k_assign rfl (ev_tmp h79))
  clear h79; revert hs hd h0 h1 h2 h6 h7 h8 h18 h28 h38 h48 h58 h68; refine frM12 ?_; intro a hs hd h0 h1 h2 h6 h7 h8 h18 h28 h38 h48 h58 h68 h78
  refine wp_cond_true (ev_tmp h78) ?_
  refine wp_region (show wpOps _ _ _ [0, 1, 2, 3, 4, 5, 6, 7, 8, 9] _ _ from ?_)
  refine opL 0 81 (v := .pointer (some ⟨rb, 0, none⟩)) (w' := w) (by kernel_rfl) (frZ hs) ?_ ?_
  · exact frY rfl (k_move rfl (ev_tmp h0))
  revert hs hd h0 h1 h2 h6 h7 h8 h18 h28 h38 h48 h58 h68 h78; refine frM13 ?_; intro a hs hd h0 h1 h2 h6 h7 h8 h18 h28 h38 h48 h58 h68 h78 h81
  refine opL 1 82 (v := .string ⟨s.toArray⟩) (w' := w) (by kernel_rfl) (frZ hs) ?_ ?_
  · exact frY rfl (k_move rfl (ev_tmp h2))
  revert hs hd h0 h1 h2 h6 h7 h8 h18 h28 h38 h48 h58 h68 h78 h81; refine frM14 ?_; intro a hs hd h0 h1 h2 h6 h7 h8 h18 h28 h38 h48 h58 h68 h78 h81 h82
  have hc := psI_any s w hT hl
  have hx := fun ops Q rest d a i h1 h2 h3 => opL_call (P := Tryz.prog) (ops := ops) (Q := Q) (a := a) (w := w) (rest := rest) i d h1 h2 h3 hc
  refine hx _ _ _ 83 _ 2 ?z1013a ?z1013b ?z1013 ?z1014
  case z1013a => kernel_rfl
  case z1013b => (rw [hs]; decide)
  case z1013 => exact frY rfl (c_plI rfl rfl rfl (ev_tmp h82))
  case z1014 =>
  rintro v0 w1 a ⟨hLv, l1⟩ F0
  obtain ⟨A, cap, rfl, hO⟩ : ∃ A cap, v0 = .tuple #[.slice A L.length cap, .bool true] ∧ OwnI w1 w.heap.size (.slice A L.length cap) L := by
    unfold LI at hLv
    rw [hL] at hLv
    exact hLv
  clear hLv
  replace hs := F0.z.trans hs
  replace hd := F0.e.trans hd
  replace h0 := (F0.n 0 (by decide)).trans h0
  replace h1 := (F0.n 1 (by decide)).trans h1
  replace h2 := (F0.n 2 (by decide)).trans h2
  replace h6 := (F0.n 6 (by decide)).trans h6
  replace h7 := (F0.n 7 (by decide)).trans h7
  replace h8 := (F0.n 8 (by decide)).trans h8
  replace h18 := (F0.n 18 (by decide)).trans h18
  replace h28 := (F0.n 28 (by decide)).trans h28
  replace h38 := (F0.n 38 (by decide)).trans h38
  replace h48 := (F0.n 48 (by decide)).trans h48
  replace h58 := (F0.n 58 (by decide)).trans h58
  replace h68 := (F0.n 68 (by decide)).trans h68
  replace h78 := (F0.n 78 (by decide)).trans h78
  replace h81 := (F0.n 81 (by decide)).trans h81
  clear h82
  have h83 := F0.s
  clear F0
  clear hx hc
  have B1 := hB.below l1 hB.lt
  refine opL 3 80 (v := .tuple #[.slice A L.length cap, .bool true]) (w' := w1) (by kernel_rfl) (frZ hs) ?_ ?_
  · exact frY rfl (k_move rfl (ev_tmp h83))
  refine frN14 hs hd h0 h1 h2 h6 h7 h8 h18 h28 h38 h48 h58 h68 h78 h81 ?_; clear hs hd h0 h1 h2 h6 h7 h8 h18 h28 h38 h48 h58 h68 h78 h81 h83; intro a hs hd h0 h1 h2 h6 h7 h8 h18 h28 h38 h48 h58 h68 h78 h81 h80
  refine opL 4 84 (v := .slice A L.length cap) (w' := w1) (by kernel_rfl) (frZ hs) ?_ ?_
  · exact frY rfl (k_extract rfl (ev_tmp h80) rfl)
  revert hs hd h0 h1 h2 h6 h7 h8 h18 h28 h38 h48 h58 h68 h78 h81 h80; refine frM15 ?_; intro a hs hd h0 h1 h2 h6 h7 h8 h18 h28 h38 h48 h58 h68 h78 h81 h80 h84
  refine opL 5 85 (v := .bool true) (w' := w1) (by kernel_rfl) (frZ hs) ?_ ?_
  · exact frY rfl (k_extract rfl (ev_tmp h80) rfl)
  clear h80; revert hs hd h0 h1 h2 h6 h7 h8 h18 h28 h38 h48 h58 h68 h78 h81 h84; refine frM15 ?_; intro a hs hd h0 h1 h2 h6 h7 h8 h18 h28 h38 h48 h58 h68 h78 h81 h84 h85
  refine opL 6 86 (v := .pointer (some ⟨rb, 0, none⟩)) (w' := w1) (by kernel_rfl) (frZ hs) ?_ ?_
  · exact frY rfl (k_nil rfl (ev_tmp h81))
  clear h81; revert hs hd h0 h1 h2 h6 h7 h8 h18 h28 h38 h48 h58 h68 h78 h84 h85; refine frM15 ?_; intro a hs hd h0 h1 h2 h6 h7 h8 h18 h28 h38 h48 h58 h68 h78 h84 h85 h86
  refine opL 7 87 (v := .pointer (some ⟨rb, 7, none⟩)) (w' := w1) (by kernel_rfl) (frZ hs) ?_ ?_
  · exact frY rfl (k_field7 rfl (ev_tmp h86))
  clear h86; revert hs hd h0 h1 h2 h6 h7 h8 h18 h28 h38 h48 h58 h68 h78 h84 h85; refine frM15 ?_; intro a hs hd h0 h1 h2 h6 h7 h8 h18 h28 h38 h48 h58 h68 h78 h84 h85 h87
  refine opL_store 8 (w' := (w1.setCell ⟨rb, 7, none⟩ (.slice A L.length cap))) (by kernel_rfl) ?_ ?_
  · exact frY rfl (k_storeL rfl (ev_tmp h87) (ev_tmp h84) B1 (by omega))
  clear h84
  clear h87
  obtain ⟨w2, hw2⟩ : ∃ wn, wn = w1.setCell ⟨rb, 7, none⟩ (.slice A L.length cap) := ⟨_, rfl⟩
  rw [← hw2]
  have B2 : Blk w2 rb 36 (cs.setIfInBounds 7 (.slice A L.length cap)) := by rw [hw2]; exact B1.set 7 _
  have e2 : ∀ B, Exc B rb w1 w2 := by rw [hw2]; exact exc_set w1 rb 7 _
  clear hw2
  have ee : Exc w.heap.size rb w w2 := (Exc.of l1).trans (e2 _)
  refine opL 9 6 (v := .bool true) (w' := w2) (by kernel_rfl) (frZ hs) ?_ ?_
  · exact frY rfl (k_assign rfl (ev_tmp h85))
  refine frN12 hs hd h0 h1 h2 h7 h8 h18 h28 h38 h48 h58 h68 h78 ?_; clear hs hd h0 h1 h2 h7 h8 h18 h28 h38 h48 h58 h68 h78 h6 h85; intro a hs hd h0 h1 h2 h7 h8 h18 h28 h38 h48 h58 h68 h78 h6
  refine wp_seq ?_
  refine wp_region (show wpOps _ _ _ [0, 1] _ _ from ?_)
  refine opL 0 88 (v := .bool true) (w' := w2) (by kernel_rfl) (frZ hs) ?_ ?_
  · exact frY rfl (k_move rfl (ev_tmp h6))
  revert hs hd h0 h1 h2 h7 h8 h18 h28 h38 h48 h58 h68 h78 h6; refine frM13 ?_; intro a hs hd h0 h1 h2 h7 h8 h18 h28 h38 h48 h58 h68 h78 h6 h88
  refine opL 1 6 (v := .bool true) (w' := w2) (by kernel_rfl) (frZ hs) ?_ ?_
  · exact frY rfl (k_assign rfl (ev_tmp h88))
  clear h6 h88; revert hs hd h0 h1 h2 h7 h8 h18 h28 h38 h48 h58 h68 h78; refine frM12 ?_; intro a hs hd h0 h1 h2 h7 h8 h18 h28 h38 h48 h58 h68 h78 h6
  refine wp_ret ?_
  refine hfin a _ ?_
  exact ⟨hd, _, results_tmp rfl _ _ _, _, rfl, A, cap, h6, hO.exc (e2 w1.heap.size) (fun g hg => ⟨(hO.lt g hg).2, by have := (hO.lt g hg).1; have := hB.lt; omega⟩), B2, ee⟩

set_option maxRecDepth 100000 in
set_option maxHeartbeats 1000000 in
theorem sv_7_no (rb : Nat) (cs : Array Value) (h8 : cs.size = 8) (s : List UInt8) (w : World) (hT : Tabs w) (hl : s.length ≤ 100000) (hB : Blk w rb 36 cs) (hL : Rfc.plistI s = none) :
    Calls Tryz.prog 30 #[.pointer (some ⟨rb, 0, none⟩), .int .i64 7, .string ⟨s.toArray⟩] w fun e w' => ∃ v, e = .returned v ∧ (v = .bool false ∧ Blk w' rb 36 (cs.setIfInBounds 7 (.slice none 0 0)) ∧ Exc w.heap.size rb w w') := by
  refine calls_of_wp Tryz.func30 (show Tryz.f30.body = some svBody from rfl) ?_
  generalize hAA : (Act.mk (#[.pointer (some ⟨rb, 0, none⟩), .int .i64 7, .string ⟨s.toArray⟩] ++ Array.replicate (Tryz.f30.ntmps - (#[.pointer (some ⟨rb, 0, none⟩), .int .i64 7, .string ⟨s.toArray⟩] : Array Value).size) undef) []) = a
  have hs : a.tmps.size = 89 := by rw [← hAA]; simp [Tryz.ntmps30]
  have hd : a.defers = [] := by rw [← hAA]
  have h0 : a.tmps.getD 0 undef = .pointer (some ⟨rb, 0, none⟩) := by rw [← hAA]; simp
  have h1 : a.tmps.getD 1 undef = .int .i64 7 := by rw [← hAA]; simp
  have h2 : a.tmps.getD 2 undef = .string ⟨s.toArray⟩ := by rw [← hAA]; simp
  clear hAA
  suffices hq : ∀ Q : Exit → Act → World → Prop, (∀ (a' : Act) (w' : World), (bodyPost Tryz.prog Tryz.f30 fun e w' => ∃ v, e = .returned v ∧ (v = .bool false ∧ Blk w' rb 36 (cs.setIfInBounds 7 (.slice none 0 0)) ∧ Exc w.heap.size rb w w')) .ret a' w' → Q .ret a' w') → svBody.wp Tryz.prog Q a w from hq _ (fun _ _ h => h)
  intro Q hfin
  unfold svBody
  conv => arg 2; whnf
  refine wp_seq ?_
  refine wp_region (show wpOps _ _ _ [0] _ _ from ?_)
  refine opL 0 6 (v := .bool false) (w' := w) (by kernel_rfl) (frZ hs) ?_ ?_
  · exact frY rfl (k_assign rfl rfl)
  refine frN3 hs hd h0 h1 h2 ?_; clear hs hd h0 h1 h2; intro a hs hd h0 h1 h2 h6
  refine wp_seq ?_
  refine wp_seq ?_
  refine wp_region (show wpOps _ _ _ [0] _ _ from ?_)
  refine opL 0 7 (v := .int .i64 7) (w' := w) (by kernel_rfl) (frZ hs) ?_ ?_
  · exact frY rfl (k_move rfl (ev_tmp h1))
  revert hs hd h0 h1 h2 h6; refine frM4 ?_; intro a hs hd h0 h1 h2 h6 h7
  refine wp_block ?_
  refine wp_seq ?_
  refine wp_region (show wpOps _ _ _ [0, 1] _ _ from ?_)
  refine opL 0 9 (v := .bool false) (w' := w) (by kernel_rfl) (frZ hs) ?_ ?_
  · exact frY rfl (o_eqP rfl (ev_tmp h7) rfl rfl)
  revert hs hd h0 h1 h2 h6 h7; refine frM5 ?_; intro a hs hd h0 h1 h2 h6 h7 h9
  refine opL 1 8 (v := .bool false) (w' := w) (by kernel_rfl) (frZ hs) ?_ ?_
  · exact frY rfl (k_assign rfl (ev_tmp h9))
  clear h9; revert hs hd h0 h1 h2 h6 h7; refine frM5 ?_; intro a hs hd h0 h1 h2 h6 h7 h8
  refine wp_cond_false (ev_tmp h8) ?_
  refine wp_seq ?_
  refine wp_region (show wpOps _ _ _ [0, 1] _ _ from ?_)
  refine opL 0 19 (v := .bool false) (w' := w) (by kernel_rfl) (frZ hs) ?_ ?_
  · exact frY rfl (o_eqP rfl (ev_tmp h7) rfl rfl)
  revert hs hd h0 h1 h2 h6 h7 h8; refine frM6 ?_; intro a hs hd h0 h1 h2 h6 h7 h8 h19
  refine opL 1 18 (v := .bool false) (w' := w) (by kernel_rfl) (frZ hs) ?_ ?_
  · exact frY rfl (k_assign rfl (ev_tmp h19))
  clear h19; revert hs hd h0 h1 h2 h6 h7 h8; refine frM6 ?_; intro a hs hd h0 h1 h2 h6 h7 h8 h18
  refine wp_cond_false (ev_tmp h18) ?_
  refine wp_seq ?_
  refine wp_region (show wpOps _ _ _ [0, 1] _ _ from ?_)
  refine opL 0 29 (v := .bool false) (w' := w) (by kernel_rfl) (frZ hs) ?_ ?_
  · exact frY rfl (o_eqP rfl (ev_tmp h7) rfl rfl)
  revert hs hd h0 h1 h2 h6 h7 h8 h18; refine frM7 ?_; intro a hs hd h0 h1 h2 h6 h7 h8 h18 h29
  refine opL 1 28 (v := .bool false) (w' := w) (by kernel_rfl) (frZ hs) ?_ ?_
  · exact frY rfl (k_assign rfl (ev_tmp h29))
  clear h29; revert hs hd h0 h1 h2 h6 h7 h8 h18; refine frM7 ?_; intro a hs hd h0 h1 h2 h6 h7 h8 h18 h28
  refine wp_cond_false (ev_tmp h28) ?_
  refine wp_seq ?_
  refine wp_region (show wpOps _ _ _ [0, 1] _ _ from ?_)
  refine opL 0 39 (v := .bool false) (w' := w) (by kernel_rfl) (frZ hs) ?_ ?_
  · exact frY rfl (o_eqP rfl (ev_tmp h7) rfl rfl)
  revert hs hd h0 h1 h2 h6 h7 h8 h18 h28; refine frM8 ?_; intro a hs hd h0 h1 h2 h6 h7 h8 h18 h28 h39
  refine opL 1 38 (v := .bool false) (w' := w) (by kernel_rfl) (frZ hs) ?_ ?_
  · exact frY rfl (k_assign rfl (ev_tmp h39))
  clear h39; revert hs hd h0 h1 h2 h6 h7 h8 h18 h28; refine frM8 ?_; intro a hs hd h0 h1 h2 h6 h7 h8 h18 h28 h38
  refine wp_cond_false (ev_tmp h38) ?_
  refine wp_seq ?_
  refine wp_region (show wpOps _ _ _ [0, 1] _ _ from ?_)
  refine opL 0 49 (v := .bool false) (w' := w) (by kernel_rfl) (frZ hs) ?_ ?_
  · exact frY rfl (o_eqP rfl (ev_tmp h7) rfl rfl)
  revert hs hd h0 h1 h2 h6 h7 h8 h18 h28 h38; refine frM9 ?_; intro a hs hd h0 h1 h2 h6 h7 h8 h18 h28 h38 h49
  refine opL 1 48 (v := .bool false) (w' := w) (by kernel_rfl) (frZ hs) ?_ ?_
  · exact frY rfl (k_assign rfl (ev_tmp h49))
  clear h49; revert hs hd h0 h1 h2 h6 h7 h8 h18 h28 h38; refine frM9 ?_; intro a hs hd h0 h1 h2 h6 h7 h8 h18 h28 h38 h48
  refine wp_cond_false (ev_tmp h48) ?_
  refine wp_seq ?_
  refine wp_region (show wpOps _ _ _ [0, 1] _ _ from ?_)
  refine opL 0 59 (v := .bool false) (w' := w) (by kernel_rfl) (frZ hs) ?_ ?_
  · exact frY rfl (o_eqP rfl (ev_tmp h7) rfl rfl)
  revert hs hd h0 h1 h2 h6 h7 h8 h18 h28 h38 h48; refine frM10 ?_; intro a hs hd h0 h1 h2 h6 h7 h8 h18 h28 h38 h48 h59
  refine opL 1 58 (v := .bool false) (w' := w) (by kernel_rfl) (frZ hs) ?_ ?_
  · exact frY rfl (k_assign rfl (ev_tmp h59))
  clear h59; revert hs hd h0 h1 h2 h6 h7 h8 h18 h28 h38 h48; refine frM10 ?_; intro a hs hd h0 h1 h2 h6 h7 h8 h18 h28 h38 h48 h58
  refine wp_cond_false (ev_tmp h58) ?_
  refine wp_seq ?_
  refine wp_region (show wpOps _ _ _ [0, 1] _ _ from ?_)
  refine opL 0 69 (v := .bool false) (w' := w) (by kernel_rfl) (frZ hs) ?_ ?_
  · exact frY rfl (o_eqP rfl (ev_tmp h7) rfl rfl)
  revert hs hd h0 h1 h2 h6 h7 h8 h18 h28 h38 h48 h58; refine frM11 ?_; intro a hs hd h0 h1 h2 h6 h7 h8 h18 h28 h38 h48 h58 h69
  refine opL 1 68 (v := .bool false) (w' := w) (by kernel_rfl) (frZ hs) ?_ ?_
  · exact frY rfl (k_assign rfl (ev_tmp h69))
  clear h69; revert hs hd h0 h1 h2 h6 h7 h8 h18 h28 h38 h48 h58; refine frM11 ?_; intro a hs hd h0 h1 h2 h6 h7 h8 h18 h28 h38 h48 h58 h68
  refine wp_cond_false (ev_tmp h68) ?_
  refine wp_seq ?_
  refine wp_region (show wpOps _ _ _ [0, 1] _ _ from ?_)
  refine opL 0 79 (v := .bool true) (w' := w) (by kernel_rfl) (frZ hs) ?_ ?_
  · exact frY rfl (o_eqP rfl (ev_tmp h7) rfl rfl)
  revert hs hd h0 h1 h2 h6 h7 h8 h18 h28 h38 h48 h58 h68; refine frM12 ?_; intro a hs hd h0 h1 h2 h6 h7 h8 h18 h28 h38 h48 h58 h68 h79
  refine opL 1 78 (v := .bool true) (w' := w) (by kernel_rfl) (frZ hs) ?_ ?_
  · exact frY rfl (k_assign rfl (ev_tmp h79))
  clear h79; revert hs hd h0 h1 h2 h6 h7 h8 h18 h28 h38 h48 h58 h68; refine frM12 ?_; intro a hs hd h0 h1 h2 h6 h7 h8 h18 h28 h38 h48 h58 h68 h78
  refine wp_cond_true (ev_tmp h78) ?_
  refine wp_region (show wpOps _ _ _ [0, 1, 2, 3, 4, 5, 6, 7, 8, 9] _ _ from ?_)
  refine opL 0 81 (v := .pointer (some ⟨rb, 0, none⟩)) (w' := w) (by kernel_rfl) (frZ hs) ?_ ?_
  · exact frY rfl (k_move rfl (ev_tmp h0))
  revert hs hd h0 h1 h2 h6 h7 h8 h18 h28 h38 h48 h58 h68 h78; refine frM13 ?_; intro a hs hd h0 h1 h2 h6 h7 h8 h18 h28 h38 h48 h58 h68 h78 h81
  refine opL 1 82 (v := .string ⟨s.toArray⟩) (w' := w) (by kernel_rfl) (frZ hs) ?_ ?_
  · exact frY rfl (k_move rfl (ev_tmp h2))
  revert hs hd h0 h1 h2 h6 h7 h8 h18 h28 h38 h48 h58 h68 h78 h81; refine frM14 ?_; intro a hs hd h0 h1 h2 h6 h7 h8 h18 h28 h38 h48 h58 h68 h78 h81 h82
  have hc := psI_any s w hT hl
  have hx := fun ops Q rest d a i h1 h2 h3 => opL_call (P := Tryz.prog) (ops := ops) (Q := Q) (a := a) (w := w) (rest := rest) i d h1 h2 h3 hc
  refine hx _ _ _ 83 _ 2 ?z1073a ?z1073b ?z1073 ?z1074
  case z1073a => kernel_rfl
  case z1073b => (rw [hs]; decide)
  case z1073 => exact frY rfl (c_plI rfl rfl rfl (ev_tmp h82))
  case z1074 =>
  rintro v0 w1 a ⟨hLv, l1⟩ F0
  obtain rfl : v0 = .tuple #[.slice none 0 0, .bool false] := by
    unfold LI at hLv
    rw [hL] at hLv
    exact hLv
  clear hLv
  replace hs := F0.z.trans hs
  replace hd := F0.e.trans hd
  replace h0 := (F0.n 0 (by decide)).trans h0
  replace h1 := (F0.n 1 (by decide)).trans h1
  replace h2 := (F0.n 2 (by decide)).trans h2
  replace h6 := (F0.n 6 (by decide)).trans h6
  replace h7 := (F0.n 7 (by decide)).trans h7
  replace h8 := (F0.n 8 (by decide)).trans h8
  replace h18 := (F0.n 18 (by decide)).trans h18
  replace h28 := (F0.n 28 (by decide)).trans h28
  replace h38 := (F0.n 38 (by decide)).trans h38
  replace h48 := (F0.n 48 (by decide)).trans h48
  replace h58 := (F0.n 58 (by decide)).trans h58
  replace h68 := (F0.n 68 (by decide)).trans h68
  replace h78 := (F0.n 78 (by decide)).trans h78
  replace h81 := (F0.n 81 (by decide)).trans h81
  clear h82
  have h83 := F0.s
  clear F0
  clear hx hc
  have B1 := hB.below l1 hB.lt
  refine opL 3 80 (v := .tuple #[.slice none 0 0, .bool false]) (w' := w1) (by kernel_rfl) (frZ hs) ?_ ?_
  · exact frY rfl (k_move rfl (ev_tmp h83))
  refine frN14 hs hd h0 h1 h2 h6 h7 h8 h18 h28 h38 h48 h58 h68 h78 h81 ?_; clear hs hd h0 h1 h2 h6 h7 h8 h18 h28 h38 h48 h58 h68 h78 h81 h83; intro a hs hd h0 h1 h2 h6 h7 h8 h18 h28 h38 h48 h58 h68 h78 h81 h80
  refine opL 4 84 (v := .slice none 0 0) (w' := w1) (by kernel_rfl) (frZ hs) ?_ ?_
  · exact frY rfl (k_extract rfl (ev_tmp h80) rfl)
  revert hs hd h0 h1 h2 h6 h7 h8 h18 h28 h38 h48 h58 h68 h78 h81 h80; refine frM15 ?_; intro a hs hd h0 h1 h2 h6 h7 h8 h18 h28 h38 h48 h58 h68 h78 h81 h80 h84
  refine opL 5 85 (v := .bool false) (w' := w1) (by kernel_rfl) (frZ hs) ?_ ?_
  · exact frY rfl (k_extract rfl (ev_tmp h80) rfl)
  clear h80; revert hs hd h0 h1 h2 h6 h7 h8 h18 h28 h38 h48 h58 h68 h78 h81 h84; refine frM15 ?_; intro a hs hd h0 h1 h2 h6 h7 h8 h18 h28 h38 h48 h58 h68 h78 h81 h84 h85
  refine opL 6 86 (v := .pointer (some ⟨rb, 0, none⟩)) (w' := w1) (by kernel_rfl) (frZ hs) ?_ ?_
  · exact frY rfl (k_nil rfl (ev_tmp h81))
  clear h81; revert hs hd h0 h1 h2 h6 h7 h8 h18 h28 h38 h48 h58 h68 h78 h84 h85; refine frM15 ?_; intro a hs hd h0 h1 h2 h6 h7 h8 h18 h28 h38 h48 h58 h68 h78 h84 h85 h86
  refine opL 7 87 (v := .pointer (some ⟨rb, 7, none⟩)) (w' := w1) (by kernel_rfl) (frZ hs) ?_ ?_
  · exact frY rfl (k_field7 rfl (ev_tmp h86))
  clear h86; revert hs hd h0 h1 h2 h6 h7 h8 h18 h28 h38 h48 h58 h68 h78 h84 h85; refine frM15 ?_; intro a hs hd h0 h1 h2 h6 h7 h8 h18 h28 h38 h48 h58 h68 h78 h84 h85 h87
  refine opL_store 8 (w' := (w1.setCell ⟨rb, 7, none⟩ (.slice none 0 0))) (by kernel_rfl) ?_ ?_
  · exact frY rfl (k_storeL rfl (ev_tmp h87) (ev_tmp h84) B1 (by omega))
  clear h84
  clear h87
  obtain ⟨w2, hw2⟩ : ∃ wn, wn = w1.setCell ⟨rb, 7, none⟩ (.slice none 0 0) := ⟨_, rfl⟩
  rw [← hw2]
  have B2 : Blk w2 rb 36 (cs.setIfInBounds 7 (.slice none 0 0)) := by rw [hw2]; exact B1.set 7 _
  have e2 : ∀ B, Exc B rb w1 w2 := by rw [hw2]; exact exc_set w1 rb 7 _
  clear hw2
  have ee : Exc w.heap.size rb w w2 := (Exc.of l1).trans (e2 _)
  refine opL 9 6 (v := .bool false) (w' := w2) (by kernel_rfl) (frZ hs) ?_ ?_
  · exact frY rfl (k_assign rfl (ev_tmp h85))
  refine frN12 hs hd h0 h1 h2 h7 h8 h18 h28 h38 h48 h58 h68 h78 ?_; clear hs hd h0 h1 h2 h7 h8 h18 h28 h38 h48 h58 h68 h78 h6 h85; intro a hs hd h0 h1 h2 h7 h8 h18 h28 h38 h48 h58 h68 h78 h6
  refine wp_seq ?_
  refine wp_region (show wpOps _ _ _ [0, 1] _ _ from ?_)
  refine opL 0 88 (v := .bool false) (w' := w2) (by kernel_rfl) (frZ hs) ?_ ?_
  · exact frY rfl (k_move rfl (ev_tmp h6))
  revert hs hd h0 h1 h2 h7 h8 h18 h28 h38 h48 h58 h68 h78 h6; refine frM13 ?_; intro a hs hd h0 h1 h2 h7 h8 h18 h28 h38 h48 h58 h68 h78 h6 h88
  refine opL 1 6 (v := .bool false) (w' := w2) (by kernel_rfl) (frZ hs) ?_ ?_
  · exact frY rfl (k_assign rfl (ev_tmp h88))
  clear h6 h88; revert hs hd h0 h1 h2 h7 h8 h18 h28 h38 h48 h58 h68 h78; refine frM12 ?_; intro a hs hd h0 h1 h2 h7 h8 h18 h28 h38 h48 h58 h68 h78 h6
  refine wp_ret ?_
  refine hfin a _ ?_
  exact ⟨hd, _, results_tmp rfl _ _ _, _, rfl, h6, B2, ee⟩

theorem sv_any (p : Nat) (hp : p < 8) (rb lo : Nat) (r : Rfc.Ru) (s : List UInt8) (w : World) (hT : Tabs w) (hl : s.length ≤ 100000) (hR : RuB w rb lo r) (hlo : rb < lo ∧ lo ≤ w.heap.size) :
    Calls Tryz.prog 30 #[.pointer (some ⟨rb, 0, none⟩), .int .i64 p, .string ⟨s.toArray⟩] w fun e w' => ∃ v, e = .returned v ∧ (v = .bool (Rfc.setF p s r).isSome ∧ (∀ r', Rfc.setF p s r = some r' → RuB w' rb lo r') ∧ (∃ cs, Blk w' rb 36 cs) ∧ Exc w.heap.size rb w w') := by
  obtain ⟨A1, A2, A3, A4, c1, c2, c3, c4, hB, i1, i2, i3, i4⟩ := hR
  match p, hp with
  | 0, _ =>
    refine (sv_0 rb _ rfl s w hT hB).mono ?_
    rintro e w' ⟨v, rfl, rfl, B2, ee⟩
    refine ⟨_, rfl, ?_, fun r' hr => ?_, ⟨_, B2⟩, ee⟩
    · show Value.bool (Rfc.pfreq s).isSome = .bool (Option.map _ (Rfc.pfreq s)).isSome
      rw [Option.isSome_map]
    · obtain ⟨n, hn, rfl⟩ := Option.map_eq_some_iff.1 hr
      rw [hn] at B2
      exact ⟨A1, A2, A3, A4, c1, c2, c3, c4, B2, i1.exc ee hlo.1, i2.exc ee hlo.1, i3.exc ee hlo.1, i4.exc ee hlo.1⟩
  | 1, _ =>
    refine (sv_1 rb _ rfl s w hT hl hB).mono ?_
    rintro e w' ⟨v, rfl, rfl, B2, ee⟩
    refine ⟨_, rfl, ?_, fun r' hr => ?_, ⟨_, B2⟩, ee⟩
    · show Value.bool (Rfc.pnum s).isSome = .bool (Option.map _ (Rfc.pnum s)).isSome
      rw [Option.isSome_map]
    · obtain ⟨n, hn, rfl⟩ := Option.map_eq_some_iff.1 hr
      rw [hn] at B2
      exact ⟨A1, A2, A3, A4, c1, c2, c3, c4, B2, i1.exc ee hlo.1, i2.exc ee hlo.1, i3.exc ee hlo.1, i4.exc ee hlo.1⟩
  | 2, _ =>
    refine (sv_2 rb _ rfl s w hT hl hB).mono ?_
    rintro e w' ⟨v, rfl, rfl, B2, ee⟩
    refine ⟨_, rfl, ?_, fun r' hr => ?_, ⟨_, B2⟩, ee⟩
    · show Value.bool (Rfc.pnz s).isSome = .bool (Option.map _ (Rfc.pnz s)).isSome
      rw [Option.isSome_map]
    · obtain ⟨n, hn, rfl⟩ := Option.map_eq_some_iff.1 hr
      rw [hn] at B2
      exact ⟨A1, A2, A3, A4, c1, c2, c3, c4, B2, i1.exc ee hlo.1, i2.exc ee hlo.1, i3.exc ee hlo.1, i4.exc ee hlo.1⟩
  | 3, _ =>
    refine (sv_3 rb _ rfl s w hT hB).mono ?_
    rintro e w' ⟨v, rfl, rfl, B2, ee⟩
    refine ⟨_, rfl, ?_, fun r' hr => ?_, ⟨_, B2⟩, ee⟩
    · show Value.bool (Rfc.pday s).isSome = .bool (Option.map _ (Rfc.pday s)).isSome
      rw [Option.isSome_map]
    · obtain ⟨n, hn, rfl⟩ := Option.map_eq_some_iff.1 hr
      rw [hn] at B2
      exact ⟨A1, A2, A3, A4, c1, c2, c3, c4, B2, i1.exc ee hlo.1, i2.exc ee hlo.1, i3.exc ee hlo.1, i4.exc ee hlo.1⟩
  | 4, _ =>
    cases hL : Rfc.plistI s with
    | none =>
      refine (sv_4_no rb _ rfl s w hT hl hB hL).mono ?_
      rintro e w' ⟨v, rfl, rfl, B2, ee⟩
      refine ⟨_, rfl, ?_, fun r' hr => ?_, ⟨_, B2⟩, ee⟩
      · show Value.bool false = .bool (Option.map _ (Rfc.plistI s)).isSome
        rw [hL]
        rfl
      · obtain ⟨n, hn, -⟩ := Option.map_eq_some_iff.1 (show Option.map _ (Rfc.plistI s) = some r' from hr)
        rw [hL] at hn
        cases hn
    | some L =>
      refine (sv_4_yes rb _ rfl s w hT hl hB L hL).mono ?_
      rintro e w' ⟨v, rfl, A, cap, rfl, hO, B2, ee⟩
      refine ⟨_, rfl, ?_, fun r' hr => ?_, ⟨_, B2⟩, ee⟩
      · show Value.bool true = .bool (Option.map _ (Rfc.plistI s)).isSome
        rw [hL]
        rfl
      · obtain ⟨n, hn, rfl⟩ := Option.map_eq_some_iff.1 (show Option.map _ (Rfc.plistI s) = some r' from hr)
        rw [hL] at hn
        obtain rfl := Option.some.inj hn
        exact ⟨A, A2, A3, A4, cap, c2, c3, c4, B2, hO.inn' hlo.2, i2.exc ee hlo.1, i3.exc ee hlo.1, i4.exc ee hlo.1⟩
  | 5, _ =>
    cases hL : Rfc.plistI s with
    | none =>
      refine (sv_5_no rb _ rfl s w hT hl hB hL).mono ?_
      rintro e w' ⟨v, rfl, rfl, B2, ee⟩
      refine ⟨_, rfl, ?_, fun r' hr => ?_, ⟨_, B2⟩, ee⟩
      · show Value.bool false = .bool (Option.map _ (Rfc.plistI s)).isSome
        rw [hL]
        rfl
      · obtain ⟨n, hn, -⟩ := Option.map_eq_some_iff.1 (show Option.map _ (Rfc.plistI s) = some r' from hr)
        rw [hL] at hn
        cases hn
    | some L =>
      refine (sv_5_yes rb _ rfl s w hT hl hB L hL).mono ?_
      rintro e w' ⟨v, rfl, A, cap, rfl, hO, B2, ee⟩
      refine ⟨_, rfl, ?_, fun r' hr => ?_, ⟨_, B2⟩, ee⟩
      · show Value.bool true = .bool (Option.map _ (Rfc.plistI s)).isSome
        rw [hL]
        rfl
      · obtain ⟨n, hn, rfl⟩ := Option.map_eq_some_iff.1 (show Option.map _ (Rfc.plistI s) = some r' from hr)
        rw [hL] at hn
        obtain rfl := Option.some.inj hn
        exact ⟨A1, A, A3, A4, c1, cap, c3, c4, B2, i1.exc ee hlo.1, hO.inn' hlo.2, i3.exc ee hlo.1, i4.exc ee hlo.1⟩
  | 6, _ =>
    cases hL : Rfc.plistN s with
    | none =>
      refine (sv_6_no rb _ rfl s w hT hl hB hL).mono ?_
      rintro e w' ⟨v, rfl, rfl, B2, ee⟩
      refine ⟨_, rfl, ?_, fun r' hr => ?_, ⟨_, B2⟩, ee⟩
      · show Value.bool false = .bool (Option.map _ (Rfc.plistN s)).isSome
        rw [hL]
        rfl
      · obtain ⟨n, hn, -⟩ := Option.map_eq_some_iff.1 (show Option.map _ (Rfc.plistN s) = some r' from hr)
        rw [hL] at hn
        cases hn
    | some L =>
      refine (sv_6_yes rb _ rfl s w hT hl hB L hL).mono ?_
      rintro e w' ⟨v, rfl, A, cap, rfl, hO, B2, ee⟩
      refine ⟨_, rfl, ?_, fun r' hr => ?_, ⟨_, B2⟩, ee⟩
      · show Value.bool true = .bool (Option.map _ (Rfc.plistN s)).isSome
        rw [hL]
        rfl
      · obtain ⟨n, hn, rfl⟩ := Option.map_eq_some_iff.1 (show Option.map _ (Rfc.plistN s) = some r' from hr)
        rw [hL] at hn
        obtain rfl := Option.some.inj hn
        exact ⟨A1, A2, A, A4, c1, c2, cap, c4, B2, i1.exc ee hlo.1, i2.exc ee hlo.1, hO.inn' hlo.2, i4.exc ee hlo.1⟩
  | 7, _ =>
    cases hL : Rfc.plistI s with
    | none =>
      refine (sv_7_no rb _ rfl s w hT hl hB hL).mono ?_
      rintro e w' ⟨v, rfl, rfl, B2, ee⟩
      refine ⟨_, rfl, ?_, fun r' hr => ?_, ⟨_, B2⟩, ee⟩
      · show Value.bool false = .bool (Option.map _ (Rfc.plistI s)).isSome
        rw [hL]
        rfl
      · obtain ⟨n, hn, -⟩ := Option.map_eq_some_iff.1 (show Option.map _ (Rfc.plistI s) = some r' from hr)
        rw [hL] at hn
        cases hn
    | some L =>
      refine (sv_7_yes rb _ rfl s w hT hl hB L hL).mono ?_
      rintro e w' ⟨v, rfl, A, cap, rfl, hO, B2, ee⟩
      refine ⟨_, rfl, ?_, fun r' hr => ?_, ⟨_, B2⟩, ee⟩
      · show Value.bool true = .bool (Option.map _ (Rfc.plistI s)).isSome
        rw [hL]
        rfl
      · obtain ⟨n, hn, rfl⟩ := Option.map_eq_some_iff.1 (show Option.map _ (Rfc.plistI s) = some r' from hr)
        rw [hL] at hn
        obtain rfl := Option.some.inj hn
        exact ⟨A1, A2, A3, A, c1, c2, c3, cap, B2, i1.exc ee hlo.1, i2.exc ee hlo.1, i3.exc ee hlo.1, hO.inn' hlo.2⟩
end Go.Proofs.YtocpmljkmdpfkaaGreatDoor
