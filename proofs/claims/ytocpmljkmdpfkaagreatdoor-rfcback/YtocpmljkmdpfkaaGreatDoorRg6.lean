/-
  A text as a rule: rfc.Parse.
-/
import Derived.Test.YtocpmljkmdpfkaaGreatDoorRg5
namespace Go.Proofs.YtocpmljkmdpfkaaGreatDoor
open Go.RowKit
namespace Rfc
/-- on the way: an error, or the rule so far and which parts there were -/
inductive St where
  | bad (n : Int)
  | go (r : Ru) (g : List Bool)
noncomputable def stepP (x : List UInt8) (r : Ru) (g : List Bool) : St :=
  if (Lib.cut x [61]).2.2 = false then .bad 1 else match part (Lib.cut x [61]).1 with
    | none => .bad 1
    | some p => if g.getD p false = true then .bad 5 else match setF p (Lib.cut x [61]).2.1 r with
      | none => .bad 1
      | some r' => .go r' (g.set p true)
noncomputable def runP : List (List UInt8) → Ru → List Bool → St
  | [], r, g => .go r g
  | x :: l, r, g => match stepP x r g with
    | .bad n => .bad n
    | .go r' g' => runP l r' g'
noncomputable def endP : St → St
  | .bad n => .bad n
  | .go r g => if g.getD 0 false = false then .bad 1 else if Rul.check r.f r.iv r.c r.u r.M r.D r.K r.P ≠ 0 then .bad (Rul.check r.f r.iv r.c r.u r.M r.D r.K r.P) else .go r g
/-- chapter 3's Parse -/
noncomputable def parse (s : List UInt8) : St := if 4096 < s.length then .bad 2 else endP (runP (spl s 59) ⟨0, 1, 0, 0, [], [], [], []⟩ (List.replicate 8 false))
theorem part_lt {s : List UInt8} {p : Nat} (h : part s = some p) : p < 8 := by
  have : ∀ (k i : Nat), idx nm s i k = some p → p < i + k := by
    intro k
    induction k with
    | zero => intro i h; cases h
    | succ k ih =>
      intro i h
      unfold idx at h
      split at h
      · obtain rfl := Option.some.inj h; omega
      · have := ih (i + 1) h; omega
  have := this 8 0 h
  omega
end Rfc
/-- what Parse answers -/
def Out (w : World) (o : Rfc.St) (v : Value) : Prop := match o with
  | .bad n => v = .tuple #[.agg #[.int .i64 0, .int .i64 0, .int .i64 0, .int .i64 0, .slice none 0 0, .slice none 0 0, .slice none 0 0, .slice none 0 0], .int .i64 n]
  | .go r _ => ∃ A1 A2 A3 A4 c1 c2 c3 c4, v = .tuple #[.agg #[.int .i64 r.f, .int .i64 r.iv, .int .i64 r.c, .int .i64 r.u, .slice A1 r.M.length c1, .slice A2 r.D.length c2, .slice A3 r.K.length c3, .slice A4 r.P.length c4], .int .i64 0] ∧ PlainR w A1 A2 A3 A4 r.M r.D r.K r.P ∧ Rul.check r.f r.iv r.c r.u r.M r.D r.K r.P = 0
theorem cut_any (x : List UInt8) (w : World) (hT : Tabs w) (hl : x.length ≤ 100000) : Calls Tryz.prog 19 #[.string ⟨x.toArray⟩, .string ⟨#[61]⟩] w fun e w' => ∃ v, e = .returned v ∧ v = .tuple #[.string ⟨(Lib.cut x [61]).1.toArray⟩, .string ⟨(Lib.cut x [61]).2.1.toArray⟩, .bool (Lib.cut x [61]).2.2] ∧ Below w.heap.size w w' := by
  obtain ⟨m, hm⟩ := hT.max
  refine (Tryz.strings_Cut ⟨x.toArray⟩ ⟨#[61]⟩ m w (by rw [ba_size]; omega) hm).mono ?_
  rintro e w' ⟨rfl, n, rfl⟩
  exact ⟨_, rfl, by rw [ba_data], below_drewN' n⟩
theorem cut_le (x : List UInt8) : (Lib.cut x [61]).2.1.length ≤ x.length := by
  unfold Lib.cut
  split
  · simp
  · simp
section
variable {w : World} {ρ : Operand → Value} {o : Oper} {x y z : Operand} {v u r : Value} {b i : Nat} {q : Bool} {ad : Addr}
theorem c_Cut (ho : o.op = .call ⟨.value (.func 19), #[x, y], #[9, 9]⟩) (hf : ρ (.func 19) = .func (.func 19) #[] #[]) (hx : ρ x = v) (hy : ρ y = u) : (execOp ρ o).run Tryz.prog w = .ok (.enter 19 #[v, u]) w := by
  simp only [execOp, ho]
  go_simp
theorem c_partOf (ho : o.op = .call ⟨.value (.func 29), #[x], #[9]⟩) (hf : ρ (.func 29) = .func (.func 29) #[] #[]) (hx : ρ x = v) : (execOp ρ o).run Tryz.prog w = .ok (.enter 29 #[v]) w := by
  simp only [execOp, ho]
  go_simp
theorem c_pVal (ho : o.op = .call ⟨.value (.func 30), #[x, y, z], #[74, 69, 9]⟩) (hf : ρ (.func 30) = .func (.func 30) #[] #[]) (hx : ρ x = v) (hy : ρ y = u) (hz : ρ z = r) : (execOp ρ o).run Tryz.prog w = .ok (.enter 30 #[v, u, r]) w := by
  simp only [execOp, ho]
  go_simp
theorem k_buildR0 (ho : o.op = .build 36 #[]) : (execOp ρ o).run Tryz.prog w = .ok (.value (.agg #[.int .i64 0, .int .i64 0, .int .i64 0, .int .i64 0, .slice none 0 0, .slice none 0 0, .slice none 0 0, .slice none 0 0])) w := by
  simp only [execOp, ho]
  go_simp
theorem k_buildR1 (ho : o.op = .build 36 #[(1, .const (.int .i64 1))]) (hc : ρ (.const (.int .i64 1)) = .int .i64 1) : (execOp ρ o).run Tryz.prog w = .ok (.value (.agg #[.int .i64 0, .int .i64 1, .int .i64 0, .int .i64 0, .slice none 0 0, .slice none 0 0, .slice none 0 0, .slice none 0 0])) w := by
  simp only [execOp, ho]
  go_simp
theorem k_allocG (ho : o.op = .alloc 70) : (execOp ρ o).run Tryz.prog w = .ok (.value (.pointer (some ⟨w.heap.size, 0, none⟩))) (w.alloc (.cells #[.bool false, .bool false, .bool false, .bool false, .bool false, .bool false, .bool false, .bool false] 70)) := by
  simp only [execOp, ho]
  go_simp
theorem k_atG (ho : o.op = .indexAddr 70 x y) (hx : ρ x = .pointer (some ⟨b, 0, none⟩)) (hy : ρ y = .int .i64 i) (hi : i < 8) : (execOp ρ o).run Tryz.prog w = .ok (.value (.pointer (some ⟨b, i, none⟩))) w := by
  simp only [execOp, ho]
  go_simp
  intro h
  omega
theorem k_loadBool (ho : o.op = .load 4 x) (hx : ρ x = .pointer (some ad)) (hc : w.cell? ad = some (.bool q)) : (execOp ρ o).run Tryz.prog w = .ok (.value (.bool q)) w := by
  simp only [execOp, ho, hx]
  go_simp
theorem k_storeBool {t : TypeId} {cs : Array Value} (ho : o.op = .store 4 x y) (hx : ρ x = .pointer (some ⟨b, i, none⟩)) (hy : ρ y = .bool q) (hb : Blk w b t cs) (hi : i < cs.size) :
    (execOp ρ o).run Tryz.prog w = .ok .skip (w.setCell ⟨b, i, none⟩ (.bool q)) := by
  have hc := hb.cell i
  have hf := hb.frozen i
  rw [Array.getElem?_eq_getElem hi] at hc
  simp only [execOp, ho, hx, hy]
  go_simp
theorem k_lenT (ho : o.op = .call ⟨.builtin .len, #[x], #[9]⟩) {t : ByteArray} (hx : ρ x = .string t) : (execOp ρ o).run Tryz.prog w = .ok (.value (.int .i64 t.size)) w := by
  simp only [execOp, ho]
  go_simp
end
theorem results_parse {tmps : Array Value} {w : World} {b : Nat} {f iv c u : Int} {sM sD sW sP r : Value} (hd : tmps.getD 2 undef = .pointer (some ⟨b, 0, none⟩)) (h : RuleAt w b f iv c u sM sD sW sP) (h3 : tmps.getD 3 undef = r) :
    (results Tryz.f11 tmps).run Tryz.prog w = .ok (.tuple #[.agg #[.int .i64 f, .int .i64 iv, .int .i64 c, .int .i64 u, sM, sD, sW, sP], r]) w := by
  obtain ⟨-, c0, c1, c2, c3, c4, c5, c6, c7⟩ := h
  have hr : tmps[2]?.getD undef = .pointer (some ⟨b, 0, none⟩) := by simpa using hd
  have hr3 : tmps[3]?.getD undef = r := by simpa using h3
  have hl : (loadVar 36 ⟨b, 0, none⟩).run Tryz.prog w = .ok (.agg #[.int .i64 f, .int .i64 iv, .int .i64 c, .int .i64 u, sM, sD, sW, sP]) w := by go_simp
  simp [results, hr, hr3, asAddr, hl]
noncomputable def paBody : Code := Tryz.f11.body.getD .skip
noncomputable def paRound : Code := (Tryz.f11.body.bind loopOf).getD .skip
structure LpQ (w : World) (rb gb sb lo : Nat) (s : List UInt8) (i : Nat) (r : Rfc.Ru) (g : List Bool) (a : Act) (wx : World) : Prop where
  d : a.defers = []
  z : a.tmps.size = 67
  s2 : a.tmps.getD 2 undef = .pointer (some ⟨w.heap.size, 0, none⟩)
  s4 : a.tmps.getD 4 undef = .pointer (some ⟨rb, 0, none⟩)
  s5 : a.tmps.getD 5 undef = .pointer (some ⟨gb, 0, none⟩)
  s20 : a.tmps.getD 20 undef = .slice (some ⟨sb, 0, none⟩) (Rfc.spl s 59).length (Rfc.spl s 59).length
  s21 : a.tmps.getD 21 undef = .int .i64 (Rfc.spl s 59).length
  s22 : a.tmps.getD 22 undef = .int .i64 i
  iN : i ≤ (Rfc.spl s 59).length
  m : Rfc.runP (Rfc.spl s 59) (⟨0, 1, 0, 0, [], [], [], []⟩ : Rfc.Ru) (List.replicate 8 false) = Rfc.runP ((Rfc.spl s 59).drop i) r g
  g8 : g.length = 8
  Q2 : Blk wx w.heap.size 36 #[.int .i64 0, .int .i64 0, .int .i64 0, .int .i64 0, .slice none 0 0, .slice none 0 0, .slice none 0 0, .slice none 0 0]
  R : RuB wx rb lo r
  G : Blk wx gb 70 (g.map Value.bool).toArray
  S : Blk wx sb 9 ((Rfc.spl s 59).map fun x => Value.string ⟨x.toArray⟩).toArray
  o : w.heap.size < rb ∧ rb < gb ∧ gb < sb ∧ sb < lo ∧ lo ≤ wx.heap.size
  b : Below w.heap.size w wx

set_option maxRecDepth 100000 in
set_option maxHeartbeats 2000000 in
theorem pa_nofound (w : World) (rb gb sb lo : Nat) (s : List UInt8) (hT : Tabs w) (hl : s.length ≤ 4096) (i : Nat) (r : Rfc.Ru) (g : List Bool) (a : Act) (wx : World) (Q : Exit → Act → World → Prop) (J : LpQ w rb gb sb lo s i r g a wx) (hlt : i < (Rfc.spl s 59).length) (hf : (Lib.cut ((Rfc.spl s 59)[i]) [61]).2.2 = false) (hfin : ∀ (a' : Act) (w' : World) (n : Int), a'.defers = [] → a'.tmps.getD 2 undef = .pointer (some ⟨w.heap.size, 0, none⟩) → Blk w' w.heap.size 36 #[.int .i64 0, .int .i64 0, .int .i64 0, .int .i64 0, .slice none 0 0, .slice none 0 0, .slice none 0 0, .slice none 0 0] → a'.tmps.getD 3 undef = .int .i64 n → Rfc.runP (Rfc.spl s 59) (⟨0, 1, 0, 0, [], [], [], []⟩ : Rfc.Ru) (List.replicate 8 false) = .bad n → Below w.heap.size w w' → Q .ret a' w') :
    paRound.wp Tryz.prog (Exit.then (fun a' w' => (∃ i r g, LpQ w rb gb sb lo s i r g a' w') ∧ ((Rfc.spl s 59).length - intOf (a'.tmps.getD 22 undef)).toNat < ((Rfc.spl s 59).length - intOf (a.tmps.getD 22 undef)).toNat) Q) a wx := by
  obtain ⟨hd, hs, h2, h4, h5, h20, h21, h22, hi, hm, g8, Q2, hR, hG, hS, oo, hb⟩ := J
  have hpl : ((Rfc.spl s 59)[i]).length ≤ 100000 := Nat.le_trans (piece_le _ s 59 _ (List.getElem_mem hlt)) (by omega)
  have hcell : wx.cell? ⟨sb, i, none⟩ = some (.string ⟨(((Rfc.spl s 59)[i])).toArray⟩) := by rw [hS.cell i]; simp [hlt]
  have hspl : (Rfc.spl s 59).length ≤ 100001 := by
    rw [spl_len]
    have := Lib.countB_le ⟨#[59]⟩ (Nat.le_refl 1) _ ⟨s.toArray⟩ (Nat.le_refl _)
    rw [ba_size] at this
    omega
  have estep : Rfc.runP ((Rfc.spl s 59).drop i) r g = .bad 1 := by
    have e : Rfc.stepP ((Rfc.spl s 59)[i]) r g = .bad 1 := by
      unfold Rfc.stepP
      rw [if_pos hf]
    rw [List.drop_eq_getElem_cons hlt, Rfc.runP, e]
  have e22 := h22
  rw [e22]
  clear e22
  unfold paRound
  conv => arg 2; whnf
  refine wp_seq ?_
  refine wp_region (show wpOps _ _ _ [0] _ _ from ?_)
  refine opL 0 23 (v := .bool true) (w' := wx) (by kernel_rfl) (frZ hs) ?_ ?_
  · exact frY rfl (o_ltI rfl (ev_tmp h22) (ev_tmp h21) (decide_eq_true (by omega)))
  refine frN6 hs hd h2 h4 h5 h20 h21 h22 ?_; clear hs hd h2 h4 h5 h20 h21 h22; intro a hs hd h2 h4 h5 h20 h21 h22 h23
  refine wp_seq ?_
  refine wp_cond_true (ev_tmp h23) ?_
  refine wp_skip ?_
  refine wp_seq ?_
  refine wp_block ?_
  refine wp_seq ?_
  refine wp_region (show wpOps _ _ _ [0, 1, 2] _ _ from ?_)
  refine opL 0 24 (v := .pointer (some ⟨sb, i, none⟩)) (w' := wx) (by kernel_rfl) (frZ hs) ?_ ?_
  · exact frY rfl (k_atS' rfl (ev_tmp h20) (ev_tmp h22) hlt)
  revert hs hd h2 h4 h5 h20 h21 h22 h23; refine frM7 ?_; intro a hs hd h2 h4 h5 h20 h21 h22 h23 h24
  refine opL 1 25 (v := .string ⟨(((Rfc.spl s 59)[i])).toArray⟩) (w' := wx) (by kernel_rfl) (frZ hs) ?_ ?_
  · exact frY rfl (k_loadStr rfl (ev_tmp h24) hcell)
  clear h24; revert hs hd h2 h4 h5 h20 h21 h22 h23; refine frM7 ?_; intro a hs hd h2 h4 h5 h20 h21 h22 h23 h25
  refine opL 2 7 (v := .string ⟨(((Rfc.spl s 59)[i])).toArray⟩) (w' := wx) (by kernel_rfl) (frZ hs) ?_ ?_
  · exact frY rfl (k_assign rfl (ev_tmp h25))
  clear h25; revert hs hd h2 h4 h5 h20 h21 h22 h23; refine frM7 ?_; intro a hs hd h2 h4 h5 h20 h21 h22 h23 h7
  refine wp_seq ?_
  refine wp_region (show wpOps _ _ _ [0, 1, 2, 3, 4, 5, 6, 7, 8] _ _ from ?_)
  refine opL 0 27 (v := .string ⟨(((Rfc.spl s 59)[i])).toArray⟩) (w' := wx) (by kernel_rfl) (frZ hs) ?_ ?_
  · exact frY rfl (k_move rfl (ev_tmp h7))
  revert hs hd h2 h4 h5 h20 h21 h22 h23 h7; refine frM8 ?_; intro a hs hd h2 h4 h5 h20 h21 h22 h23 h7 h27
  have hc := cut_any ((Rfc.spl s 59)[i]) wx (hT.below hb) hpl
  have hx := fun ops Q rest d a i h1 h2 h3 => opL_call (P := Tryz.prog) (ops := ops) (Q := Q) (a := a) (w := wx) (rest := rest) i d h1 h2 h3 hc
  refine hx _ _ _ 28 _ 1 ?z519a ?z519b ?z519 ?z520
  case z519a => kernel_rfl
  case z519b => (rw [hs]; decide)
  case z519 => exact frY rfl (c_Cut rfl rfl (ev_tmp h27) rfl)
  case z520 =>
  rintro _ w2 a ⟨rfl, l2⟩ F0
  rw [hf] at F0
  replace hs := F0.z.trans hs
  replace hd := F0.e.trans hd
  replace h2 := (F0.n 2 (by decide)).trans h2
  replace h4 := (F0.n 4 (by decide)).trans h4
  replace h5 := (F0.n 5 (by decide)).trans h5
  replace h20 := (F0.n 20 (by decide)).trans h20
  replace h21 := (F0.n 21 (by decide)).trans h21
  replace h22 := (F0.n 22 (by decide)).trans h22
  replace h23 := (F0.n 23 (by decide)).trans h23
  replace h7 := (F0.n 7 (by decide)).trans h7
  clear h27
  have h28 := F0.s
  clear F0
  clear hx hc
  replace Q2 := Q2.below l2 Q2.lt
  replace hG := hG.below l2 hG.lt
  replace hS := hS.below l2 hS.lt
  replace hR := hR.exc (Exc.of (b := gb) l2) (by omega) (by omega)
  replace hb := hb.trans (l2.mono hb.size)
  have zlw2 : lo ≤ w2.heap.size := by have := l2.size; omega
  refine opL 2 26 (v := .tuple #[.string ⟨((Lib.cut ((Rfc.spl s 59)[i]) [61]).1).toArray⟩, .string ⟨((Lib.cut ((Rfc.spl s 59)[i]) [61]).2.1).toArray⟩, .bool false]) (w' := w2) (by kernel_rfl) (frZ hs) ?_ ?_
  · exact frY rfl (k_move rfl (ev_tmp h28))
  refine frN8 hs hd h2 h4 h5 h20 h21 h22 h23 h7 ?_; clear hs hd h2 h4 h5 h20 h21 h22 h23 h7 h28; intro a hs hd h2 h4 h5 h20 h21 h22 h23 h7 h26
  refine opL 3 29 (v := .string ⟨((Lib.cut ((Rfc.spl s 59)[i]) [61]).1).toArray⟩) (w' := w2) (by kernel_rfl) (frZ hs) ?_ ?_
  · exact frY rfl (k_extract rfl (ev_tmp h26) rfl)
  revert hs hd h2 h4 h5 h20 h21 h22 h23 h7 h26; refine frM9 ?_; intro a hs hd h2 h4 h5 h20 h21 h22 h23 h7 h26 h29
  refine opL 4 30 (v := .string ⟨((Lib.cut ((Rfc.spl s 59)[i]) [61]).2.1).toArray⟩) (w' := w2) (by kernel_rfl) (frZ hs) ?_ ?_
  · exact frY rfl (k_extract rfl (ev_tmp h26) rfl)
  revert hs hd h2 h4 h5 h20 h21 h22 h23 h7 h26 h29; refine frM10 ?_; intro a hs hd h2 h4 h5 h20 h21 h22 h23 h7 h26 h29 h30
  refine opL 5 31 (v := .bool false) (w' := w2) (by kernel_rfl) (frZ hs) ?_ ?_
  · exact frY rfl (k_extract rfl (ev_tmp h26) rfl)
  clear h26; revert hs hd h2 h4 h5 h20 h21 h22 h23 h7 h29 h30; refine frM10 ?_; intro a hs hd h2 h4 h5 h20 h21 h22 h23 h7 h29 h30 h31
  refine opL 6 8 (v := .string ⟨((Lib.cut ((Rfc.spl s 59)[i]) [61]).1).toArray⟩) (w' := w2) (by kernel_rfl) (frZ hs) ?_ ?_
  · exact frY rfl (k_assign rfl (ev_tmp h29))
  clear h29; revert hs hd h2 h4 h5 h20 h21 h22 h23 h7 h30 h31; refine frM10 ?_; intro a hs hd h2 h4 h5 h20 h21 h22 h23 h7 h30 h31 h8
  refine opL 7 9 (v := .string ⟨((Lib.cut ((Rfc.spl s 59)[i]) [61]).2.1).toArray⟩) (w' := w2) (by kernel_rfl) (frZ hs) ?_ ?_
  · exact frY rfl (k_assign rfl (ev_tmp h30))
  clear h30; revert hs hd h2 h4 h5 h20 h21 h22 h23 h7 h31 h8; refine frM10 ?_; intro a hs hd h2 h4 h5 h20 h21 h22 h23 h7 h31 h8 h9
  refine opL 8 10 (v := .bool false) (w' := w2) (by kernel_rfl) (frZ hs) ?_ ?_
  · exact frY rfl (k_assign rfl (ev_tmp h31))
  clear h31; revert hs hd h2 h4 h5 h20 h21 h22 h23 h7 h8 h9; refine frM10 ?_; intro a hs hd h2 h4 h5 h20 h21 h22 h23 h7 h8 h9 h10
  refine wp_seq ?_
  refine wp_region (show wpOps _ _ _ [0, 1, 2, 3, 4, 5, 6] _ _ from ?_)
  refine opL 0 33 (v := .string ⟨((Lib.cut ((Rfc.spl s 59)[i]) [61]).1).toArray⟩) (w' := w2) (by kernel_rfl) (frZ hs) ?_ ?_
  · exact frY rfl (k_move rfl (ev_tmp h8))
  revert hs hd h2 h4 h5 h20 h21 h22 h23 h7 h8 h9 h10; refine frM11 ?_; intro a hs hd h2 h4 h5 h20 h21 h22 h23 h7 h8 h9 h10 h33
  have hc := po_any (Lib.cut ((Rfc.spl s 59)[i]) [61]).1 w2 (hT.below hb)
  have hx := fun ops Q rest d a i h1 h2 h3 => opL_call (P := Tryz.prog) (ops := ops) (Q := Q) (a := a) (w := w2) (rest := rest) i d h1 h2 h3 hc
  refine hx _ _ _ 34 _ 1 ?z537a ?z537b ?z537 ?z538
  case z537a => kernel_rfl
  case z537b => (rw [hs]; decide)
  case z537 => exact frY rfl (c_partOf rfl rfl (ev_tmp h33))
  case z538 =>
  rintro _ w3 a ⟨rfl, l3⟩ F0
  replace hs := F0.z.trans hs
  replace hd := F0.e.trans hd
  replace h2 := (F0.n 2 (by decide)).trans h2
  replace h4 := (F0.n 4 (by decide)).trans h4
  replace h5 := (F0.n 5 (by decide)).trans h5
  replace h20 := (F0.n 20 (by decide)).trans h20
  replace h21 := (F0.n 21 (by decide)).trans h21
  replace h22 := (F0.n 22 (by decide)).trans h22
  replace h23 := (F0.n 23 (by decide)).trans h23
  replace h7 := (F0.n 7 (by decide)).trans h7
  replace h8 := (F0.n 8 (by decide)).trans h8
  replace h9 := (F0.n 9 (by decide)).trans h9
  replace h10 := (F0.n 10 (by decide)).trans h10
  clear h33
  have h34 := F0.s
  clear F0
  clear hx hc
  replace Q2 := Q2.below l3 Q2.lt
  replace hG := hG.below l3 hG.lt
  replace hS := hS.below l3 hS.lt
  replace hR := hR.exc (Exc.of (b := gb) l3) (by omega) (by omega)
  replace hb := hb.trans (l3.mono hb.size)
  have zlw3 : lo ≤ w3.heap.size := by have := l3.size; omega
  refine opL 2 32 (v := .tuple #[.int .i64 ((Rfc.part (Lib.cut ((Rfc.spl s 59)[i]) [61]).1).getD 0 : Nat), .bool (Rfc.part (Lib.cut ((Rfc.spl s 59)[i]) [61]).1).isSome]) (w' := w3) (by kernel_rfl) (frZ hs) ?_ ?_
  · exact frY rfl (k_move rfl (ev_tmp h34))
  refine frN11 hs hd h2 h4 h5 h20 h21 h22 h23 h7 h8 h9 h10 ?_; clear hs hd h2 h4 h5 h20 h21 h22 h23 h7 h8 h9 h10 h34; intro a hs hd h2 h4 h5 h20 h21 h22 h23 h7 h8 h9 h10 h32
  refine opL 3 35 (v := .int .i64 ((Rfc.part (Lib.cut ((Rfc.spl s 59)[i]) [61]).1).getD 0 : Nat)) (w' := w3) (by kernel_rfl) (frZ hs) ?_ ?_
  · exact frY rfl (k_extract rfl (ev_tmp h32) rfl)
  revert hs hd h2 h4 h5 h20 h21 h22 h23 h7 h8 h9 h10 h32; refine frM12 ?_; intro a hs hd h2 h4 h5 h20 h21 h22 h23 h7 h8 h9 h10 h32 h35
  refine opL 4 36 (v := .bool (Rfc.part (Lib.cut ((Rfc.spl s 59)[i]) [61]).1).isSome) (w' := w3) (by kernel_rfl) (frZ hs) ?_ ?_
  · exact frY rfl (k_extract rfl (ev_tmp h32) rfl)
  clear h32; revert hs hd h2 h4 h5 h20 h21 h22 h23 h7 h8 h9 h10 h35; refine frM12 ?_; intro a hs hd h2 h4 h5 h20 h21 h22 h23 h7 h8 h9 h10 h35 h36
  refine opL 5 11 (v := .int .i64 ((Rfc.part (Lib.cut ((Rfc.spl s 59)[i]) [61]).1).getD 0 : Nat)) (w' := w3) (by kernel_rfl) (frZ hs) ?_ ?_
  · exact frY rfl (k_assign rfl (ev_tmp h35))
  clear h35; revert hs hd h2 h4 h5 h20 h21 h22 h23 h7 h8 h9 h10 h36; refine frM12 ?_; intro a hs hd h2 h4 h5 h20 h21 h22 h23 h7 h8 h9 h10 h36 h11
  refine opL 6 12 (v := .bool (Rfc.part (Lib.cut ((Rfc.spl s 59)[i]) [61]).1).isSome) (w' := w3) (by kernel_rfl) (frZ hs) ?_ ?_
  · exact frY rfl (k_assign rfl (ev_tmp h36))
  clear h36; revert hs hd h2 h4 h5 h20 h21 h22 h23 h7 h8 h9 h10 h11; refine frM12 ?_; intro a hs hd h2 h4 h5 h20 h21 h22 h23 h7 h8 h9 h10 h11 h12
  refine wp_seq ?_
  refine wp_seq ?_
  refine wp_region (show wpOps _ _ _ [0, 1, 2, 3, 4, 5] _ _ from ?_)
  refine opL 0 37 (v := .bool false) (w' := w3) (by kernel_rfl) (frZ hs) ?_ ?_
  · exact frY rfl (k_move rfl (ev_tmp h10))
  revert hs hd h2 h4 h5 h20 h21 h22 h23 h7 h8 h9 h10 h11 h12; refine frM13 ?_; intro a hs hd h2 h4 h5 h20 h21 h22 h23 h7 h8 h9 h10 h11 h12 h37
  refine opL 1 38 (v := .bool true) (w' := w3) (by kernel_rfl) (frZ hs) ?_ ?_
  · exact frY rfl (o_not rfl (ev_tmp h37) rfl)
  clear h37; revert hs hd h2 h4 h5 h20 h21 h22 h23 h7 h8 h9 h10 h11 h12; refine frM13 ?_; intro a hs hd h2 h4 h5 h20 h21 h22 h23 h7 h8 h9 h10 h11 h12 h38
  refine opL 2 39 (v := .bool true) (w' := w3) (by kernel_rfl) (frZ hs) ?_ ?_
  · exact frY rfl (k_move rfl (ev_tmp h38))
  clear h38; revert hs hd h2 h4 h5 h20 h21 h22 h23 h7 h8 h9 h10 h11 h12; refine frM13 ?_; intro a hs hd h2 h4 h5 h20 h21 h22 h23 h7 h8 h9 h10 h11 h12 h39
  refine opL_not 3 40 (by kernel_rfl) (frZ hs) ?z555 ?z556
  case z555 => (intro o ho; obtain rfl := Option.some.inj ho; exact wanted_at (b := true) (want := false) rfl (by kernel_rfl) h39)
  case z556 =>
  refine frN14 hs hd h2 h4 h5 h20 h21 h22 h23 h7 h8 h9 h10 h11 h12 h39 ?_; clear hs hd h2 h4 h5 h20 h21 h22 h23 h7 h8 h9 h10 h11 h12 h39; intro a hs hd h2 h4 h5 h20 h21 h22 h23 h7 h8 h9 h10 h11 h12 h39 h40
  refine opL_not 4 41 (by kernel_rfl) (frZ hs) ?z557 ?z558
  case z557 => (intro o ho; obtain rfl := Option.some.inj ho; exact wanted_at (b := true) (want := false) rfl (by kernel_rfl) h39)
  case z558 =>
  refine frN14 hs hd h2 h4 h5 h20 h21 h22 h23 h7 h8 h9 h10 h11 h12 h39 ?_; clear hs hd h2 h4 h5 h20 h21 h22 h23 h7 h8 h9 h10 h11 h12 h39 h40; intro a hs hd h2 h4 h5 h20 h21 h22 h23 h7 h8 h9 h10 h11 h12 h39 h41
  refine opL 5 42 (v := .bool true) (w' := w3) (by kernel_rfl) (frZ hs) ?_ ?_
  · exact frY rfl (k_pick_yes rfl (ev_tmp h39) rfl)
  clear h39 h41; revert hs hd h2 h4 h5 h20 h21 h22 h23 h7 h8 h9 h10 h11 h12; refine frM13 ?_; intro a hs hd h2 h4 h5 h20 h21 h22 h23 h7 h8 h9 h10 h11 h12 h42
  refine wp_cond_true (ev_tmp h42) ?_
  refine wp_seq ?_
  refine wp_region (show wpOps _ _ _ [0, 1, 2] _ _ from ?_)
  refine opL 0 43 (v := .agg #[.int .i64 0, .int .i64 0, .int .i64 0, .int .i64 0, .slice none 0 0, .slice none 0 0, .slice none 0 0, .slice none 0 0]) (w' := w3) (by kernel_rfl) (frZ hs) ?_ ?_
  · exact frY rfl (k_buildR0 rfl)
  revert hs hd h2 h4 h5 h20 h21 h22 h23 h7 h8 h9 h10 h11 h12 h42; refine frM14 ?_; intro a hs hd h2 h4 h5 h20 h21 h22 h23 h7 h8 h9 h10 h11 h12 h42 h43
  refine opL_store 1 (w' := (w3.setRow w.heap.size #[.int .i64 0, .int .i64 0, .int .i64 0, .int .i64 0, .slice none 0 0, .slice none 0 0, .slice none 0 0, .slice none 0 0])) (by kernel_rfl) ?_ ?_
  · exact frY rfl (k_storeR rfl (ev_tmp h2) (ev_tmp h43) Q2 rfl rfl (by simp [Value.oneCell']))
  clear h43
  have Qe := Q2.setRow (cs := #[.int .i64 0, .int .i64 0, .int .i64 0, .int .i64 0, .slice none 0 0, .slice none 0 0, .slice none 0 0, .slice none 0 0])
  have le := (exc_setRow w3 w.heap.size #[.int .i64 0, .int .i64 0, .int .i64 0, .int .i64 0, .slice none 0 0, .slice none 0 0, .slice none 0 0, .slice none 0 0] w.heap.size).below (Nat.le_refl _)
  refine opL 2 3 (v := .int .i64 1) (w' := (w3.setRow w.heap.size #[.int .i64 0, .int .i64 0, .int .i64 0, .int .i64 0, .slice none 0 0, .slice none 0 0, .slice none 0 0, .slice none 0 0])) (by kernel_rfl) (frZ hs) ?_ ?_
  · exact frY rfl (k_assign rfl rfl)
  refine frN14 hs hd h2 h4 h5 h20 h21 h22 h23 h7 h8 h9 h10 h11 h12 h42 ?_; clear hs hd h2 h4 h5 h20 h21 h22 h23 h7 h8 h9 h10 h11 h12 h42; intro a hs hd h2 h4 h5 h20 h21 h22 h23 h7 h8 h9 h10 h11 h12 h42 h3
  refine wp_ret ?_
  exact hfin a _ 1 hd h2 Qe h3 (by rw [hm, estep]) (hb.trans le)

set_option maxRecDepth 100000 in
set_option maxHeartbeats 2000000 in
theorem pa_unknown (w : World) (rb gb sb lo : Nat) (s : List UInt8) (hT : Tabs w) (hl : s.length ≤ 4096) (i : Nat) (r : Rfc.Ru) (g : List Bool) (a : Act) (wx : World) (Q : Exit → Act → World → Prop) (J : LpQ w rb gb sb lo s i r g a wx) (hlt : i < (Rfc.spl s 59).length) (hf : (Lib.cut ((Rfc.spl s 59)[i]) [61]).2.2 = true) (hk : Rfc.part (Lib.cut ((Rfc.spl s 59)[i]) [61]).1 = none) (hfin : ∀ (a' : Act) (w' : World) (n : Int), a'.defers = [] → a'.tmps.getD 2 undef = .pointer (some ⟨w.heap.size, 0, none⟩) → Blk w' w.heap.size 36 #[.int .i64 0, .int .i64 0, .int .i64 0, .int .i64 0, .slice none 0 0, .slice none 0 0, .slice none 0 0, .slice none 0 0] → a'.tmps.getD 3 undef = .int .i64 n → Rfc.runP (Rfc.spl s 59) (⟨0, 1, 0, 0, [], [], [], []⟩ : Rfc.Ru) (List.replicate 8 false) = .bad n → Below w.heap.size w w' → Q .ret a' w') :
    paRound.wp Tryz.prog (Exit.then (fun a' w' => (∃ i r g, LpQ w rb gb sb lo s i r g a' w') ∧ ((Rfc.spl s 59).length - intOf (a'.tmps.getD 22 undef)).toNat < ((Rfc.spl s 59).length - intOf (a.tmps.getD 22 undef)).toNat) Q) a wx := by
  obtain ⟨hd, hs, h2, h4, h5, h20, h21, h22, hi, hm, g8, Q2, hR, hG, hS, oo, hb⟩ := J
  have hpl : ((Rfc.spl s 59)[i]).length ≤ 100000 := Nat.le_trans (piece_le _ s 59 _ (List.getElem_mem hlt)) (by omega)
  have hcell : wx.cell? ⟨sb, i, none⟩ = some (.string ⟨(((Rfc.spl s 59)[i])).toArray⟩) := by rw [hS.cell i]; simp [hlt]
  have hspl : (Rfc.spl s 59).length ≤ 100001 := by
    rw [spl_len]
    have := Lib.countB_le ⟨#[59]⟩ (Nat.le_refl 1) _ ⟨s.toArray⟩ (Nat.le_refl _)
    rw [ba_size] at this
    omega
  have estep : Rfc.runP ((Rfc.spl s 59).drop i) r g = .bad 1 := by
    have e : Rfc.stepP ((Rfc.spl s 59)[i]) r g = .bad 1 := by
      unfold Rfc.stepP
      rw [if_neg (by rw [hf]; decide), hk]
    rw [List.drop_eq_getElem_cons hlt, Rfc.runP, e]
  have e22 := h22
  rw [e22]
  clear e22
  unfold paRound
  conv => arg 2; whnf
  refine wp_seq ?_
  refine wp_region (show wpOps _ _ _ [0] _ _ from ?_)
  refine opL 0 23 (v := .bool true) (w' := wx) (by kernel_rfl) (frZ hs) ?_ ?_
  · exact frY rfl (o_ltI rfl (ev_tmp h22) (ev_tmp h21) (decide_eq_true (by omega)))
  refine frN6 hs hd h2 h4 h5 h20 h21 h22 ?_; clear hs hd h2 h4 h5 h20 h21 h22; intro a hs hd h2 h4 h5 h20 h21 h22 h23
  refine wp_seq ?_
  refine wp_cond_true (ev_tmp h23) ?_
  refine wp_skip ?_
  refine wp_seq ?_
  refine wp_block ?_
  refine wp_seq ?_
  refine wp_region (show wpOps _ _ _ [0, 1, 2] _ _ from ?_)
  refine opL 0 24 (v := .pointer (some ⟨sb, i, none⟩)) (w' := wx) (by kernel_rfl) (frZ hs) ?_ ?_
  · exact frY rfl (k_atS' rfl (ev_tmp h20) (ev_tmp h22) hlt)
  revert hs hd h2 h4 h5 h20 h21 h22 h23; refine frM7 ?_; intro a hs hd h2 h4 h5 h20 h21 h22 h23 h24
  refine opL 1 25 (v := .string ⟨(((Rfc.spl s 59)[i])).toArray⟩) (w' := wx) (by kernel_rfl) (frZ hs) ?_ ?_
  · exact frY rfl (k_loadStr rfl (ev_tmp h24) hcell)
  clear h24; revert hs hd h2 h4 h5 h20 h21 h22 h23; refine frM7 ?_; intro a hs hd h2 h4 h5 h20 h21 h22 h23 h25
  refine opL 2 7 (v := .string ⟨(((Rfc.spl s 59)[i])).toArray⟩) (w' := wx) (by kernel_rfl) (frZ hs) ?_ ?_
  · exact frY rfl (k_assign rfl (ev_tmp h25))
  clear h25; revert hs hd h2 h4 h5 h20 h21 h22 h23; refine frM7 ?_; intro a hs hd h2 h4 h5 h20 h21 h22 h23 h7
  refine wp_seq ?_
  refine wp_region (show wpOps _ _ _ [0, 1, 2, 3, 4, 5, 6, 7, 8] _ _ from ?_)
  refine opL 0 27 (v := .string ⟨(((Rfc.spl s 59)[i])).toArray⟩) (w' := wx) (by kernel_rfl) (frZ hs) ?_ ?_
  · exact frY rfl (k_move rfl (ev_tmp h7))
  revert hs hd h2 h4 h5 h20 h21 h22 h23 h7; refine frM8 ?_; intro a hs hd h2 h4 h5 h20 h21 h22 h23 h7 h27
  have hc := cut_any ((Rfc.spl s 59)[i]) wx (hT.below hb) hpl
  have hx := fun ops Q rest d a i h1 h2 h3 => opL_call (P := Tryz.prog) (ops := ops) (Q := Q) (a := a) (w := wx) (rest := rest) i d h1 h2 h3 hc
  refine hx _ _ _ 28 _ 1 ?z577a ?z577b ?z577 ?z578
  case z577a => kernel_rfl
  case z577b => (rw [hs]; decide)
  case z577 => exact frY rfl (c_Cut rfl rfl (ev_tmp h27) rfl)
  case z578 =>
  rintro _ w2 a ⟨rfl, l2⟩ F0
  rw [hf] at F0
  replace hs := F0.z.trans hs
  replace hd := F0.e.trans hd
  replace h2 := (F0.n 2 (by decide)).trans h2
  replace h4 := (F0.n 4 (by decide)).trans h4
  replace h5 := (F0.n 5 (by decide)).trans h5
  replace h20 := (F0.n 20 (by decide)).trans h20
  replace h21 := (F0.n 21 (by decide)).trans h21
  replace h22 := (F0.n 22 (by decide)).trans h22
  replace h23 := (F0.n 23 (by decide)).trans h23
  replace h7 := (F0.n 7 (by decide)).trans h7
  clear h27
  have h28 := F0.s
  clear F0
  clear hx hc
  replace Q2 := Q2.below l2 Q2.lt
  replace hG := hG.below l2 hG.lt
  replace hS := hS.below l2 hS.lt
  replace hR := hR.exc (Exc.of (b := gb) l2) (by omega) (by omega)
  replace hb := hb.trans (l2.mono hb.size)
  have zlw2 : lo ≤ w2.heap.size := by have := l2.size; omega
  refine opL 2 26 (v := .tuple #[.string ⟨((Lib.cut ((Rfc.spl s 59)[i]) [61]).1).toArray⟩, .string ⟨((Lib.cut ((Rfc.spl s 59)[i]) [61]).2.1).toArray⟩, .bool true]) (w' := w2) (by kernel_rfl) (frZ hs) ?_ ?_
  · exact frY rfl (k_move rfl (ev_tmp h28))
  refine frN8 hs hd h2 h4 h5 h20 h21 h22 h23 h7 ?_; clear hs hd h2 h4 h5 h20 h21 h22 h23 h7 h28; intro a hs hd h2 h4 h5 h20 h21 h22 h23 h7 h26
  refine opL 3 29 (v := .string ⟨((Lib.cut ((Rfc.spl s 59)[i]) [61]).1).toArray⟩) (w' := w2) (by kernel_rfl) (frZ hs) ?_ ?_
  · exact frY rfl (k_extract rfl (ev_tmp h26) rfl)
  revert hs hd h2 h4 h5 h20 h21 h22 h23 h7 h26; refine frM9 ?_; intro a hs hd h2 h4 h5 h20 h21 h22 h23 h7 h26 h29
  refine opL 4 30 (v := .string ⟨((Lib.cut ((Rfc.spl s 59)[i]) [61]).2.1).toArray⟩) (w' := w2) (by kernel_rfl) (frZ hs) ?_ ?_
  · exact frY rfl (k_extract rfl (ev_tmp h26) rfl)
  revert hs hd h2 h4 h5 h20 h21 h22 h23 h7 h26 h29; refine frM10 ?_; intro a hs hd h2 h4 h5 h20 h21 h22 h23 h7 h26 h29 h30
  refine opL 5 31 (v := .bool true) (w' := w2) (by kernel_rfl) (frZ hs) ?_ ?_
  · exact frY rfl (k_extract rfl (ev_tmp h26) rfl)
  clear h26; revert hs hd h2 h4 h5 h20 h21 h22 h23 h7 h29 h30; refine frM10 ?_; intro a hs hd h2 h4 h5 h20 h21 h22 h23 h7 h29 h30 h31
  refine opL 6 8 (v := .string ⟨((Lib.cut ((Rfc.spl s 59)[i]) [61]).1).toArray⟩) (w' := w2) (by kernel_rfl) (frZ hs) ?_ ?_
  · exact frY rfl (k_assign rfl (ev_tmp h29))
  clear h29; revert hs hd h2 h4 h5 h20 h21 h22 h23 h7 h30 h31; refine frM10 ?_; intro a hs hd h2 h4 h5 h20 h21 h22 h23 h7 h30 h31 h8
  refine opL 7 9 (v := .string ⟨((Lib.cut ((Rfc.spl s 59)[i]) [61]).2.1).toArray⟩) (w' := w2) (by kernel_rfl) (frZ hs) ?_ ?_
  · exact frY rfl (k_assign rfl (ev_tmp h30))
  clear h30; revert hs hd h2 h4 h5 h20 h21 h22 h23 h7 h31 h8; refine frM10 ?_; intro a hs hd h2 h4 h5 h20 h21 h22 h23 h7 h31 h8 h9
  refine opL 8 10 (v := .bool true) (w' := w2) (by kernel_rfl) (frZ hs) ?_ ?_
  · exact frY rfl (k_assign rfl (ev_tmp h31))
  clear h31; revert hs hd h2 h4 h5 h20 h21 h22 h23 h7 h8 h9; refine frM10 ?_; intro a hs hd h2 h4 h5 h20 h21 h22 h23 h7 h8 h9 h10
  refine wp_seq ?_
  refine wp_region (show wpOps _ _ _ [0, 1, 2, 3, 4, 5, 6] _ _ from ?_)
  refine opL 0 33 (v := .string ⟨((Lib.cut ((Rfc.spl s 59)[i]) [61]).1).toArray⟩) (w' := w2) (by kernel_rfl) (frZ hs) ?_ ?_
  · exact frY rfl (k_move rfl (ev_tmp h8))
  revert hs hd h2 h4 h5 h20 h21 h22 h23 h7 h8 h9 h10; refine frM11 ?_; intro a hs hd h2 h4 h5 h20 h21 h22 h23 h7 h8 h9 h10 h33
  have hc := po_any (Lib.cut ((Rfc.spl s 59)[i]) [61]).1 w2 (hT.below hb)
  have hx := fun ops Q rest d a i h1 h2 h3 => opL_call (P := Tryz.prog) (ops := ops) (Q := Q) (a := a) (w := w2) (rest := rest) i d h1 h2 h3 hc
  refine hx _ _ _ 34 _ 1 ?z595a ?z595b ?z595 ?z596
  case z595a => kernel_rfl
  case z595b => (rw [hs]; decide)
  case z595 => exact frY rfl (c_partOf rfl rfl (ev_tmp h33))
  case z596 =>
  rintro _ w3 a ⟨rfl, l3⟩ F0
  rw [hk] at F0
  replace hs := F0.z.trans hs
  replace hd := F0.e.trans hd
  replace h2 := (F0.n 2 (by decide)).trans h2
  replace h4 := (F0.n 4 (by decide)).trans h4
  replace h5 := (F0.n 5 (by decide)).trans h5
  replace h20 := (F0.n 20 (by decide)).trans h20
  replace h21 := (F0.n 21 (by decide)).trans h21
  replace h22 := (F0.n 22 (by decide)).trans h22
  replace h23 := (F0.n 23 (by decide)).trans h23
  replace h7 := (F0.n 7 (by decide)).trans h7
  replace h8 := (F0.n 8 (by decide)).trans h8
  replace h9 := (F0.n 9 (by decide)).trans h9
  replace h10 := (F0.n 10 (by decide)).trans h10
  clear h33
  have h34 := F0.s
  clear F0
  clear hx hc
  replace Q2 := Q2.below l3 Q2.lt
  replace hG := hG.below l3 hG.lt
  replace hS := hS.below l3 hS.lt
  replace hR := hR.exc (Exc.of (b := gb) l3) (by omega) (by omega)
  replace hb := hb.trans (l3.mono hb.size)
  have zlw3 : lo ≤ w3.heap.size := by have := l3.size; omega
  refine opL 2 32 (v := .tuple #[.int .i64 0, .bool false]) (w' := w3) (by kernel_rfl) (frZ hs) ?_ ?_
  · exact frY rfl (k_move rfl (ev_tmp h34))
  refine frN11 hs hd h2 h4 h5 h20 h21 h22 h23 h7 h8 h9 h10 ?_; clear hs hd h2 h4 h5 h20 h21 h22 h23 h7 h8 h9 h10 h34; intro a hs hd h2 h4 h5 h20 h21 h22 h23 h7 h8 h9 h10 h32
  refine opL 3 35 (v := .int .i64 0) (w' := w3) (by kernel_rfl) (frZ hs) ?_ ?_
  · exact frY rfl (k_extract rfl (ev_tmp h32) rfl)
  revert hs hd h2 h4 h5 h20 h21 h22 h23 h7 h8 h9 h10 h32; refine frM12 ?_; intro a hs hd h2 h4 h5 h20 h21 h22 h23 h7 h8 h9 h10 h32 h35
  refine opL 4 36 (v := .bool false) (w' := w3) (by kernel_rfl) (frZ hs) ?_ ?_
  · exact frY rfl (k_extract rfl (ev_tmp h32) rfl)
  clear h32; revert hs hd h2 h4 h5 h20 h21 h22 h23 h7 h8 h9 h10 h35; refine frM12 ?_; intro a hs hd h2 h4 h5 h20 h21 h22 h23 h7 h8 h9 h10 h35 h36
  refine opL 5 11 (v := .int .i64 0) (w' := w3) (by kernel_rfl) (frZ hs) ?_ ?_
  · exact frY rfl (k_assign rfl (ev_tmp h35))
  clear h35; revert hs hd h2 h4 h5 h20 h21 h22 h23 h7 h8 h9 h10 h36; refine frM12 ?_; intro a hs hd h2 h4 h5 h20 h21 h22 h23 h7 h8 h9 h10 h36 h11
  refine opL 6 12 (v := .bool false) (w' := w3) (by kernel_rfl) (frZ hs) ?_ ?_
  · exact frY rfl (k_assign rfl (ev_tmp h36))
  clear h36; revert hs hd h2 h4 h5 h20 h21 h22 h23 h7 h8 h9 h10 h11; refine frM12 ?_; intro a hs hd h2 h4 h5 h20 h21 h22 h23 h7 h8 h9 h10 h11 h12
  refine wp_seq ?_
  refine wp_seq ?_
  refine wp_region (show wpOps _ _ _ [0, 1, 2, 3, 4, 5] _ _ from ?_)
  refine opL 0 37 (v := .bool true) (w' := w3) (by kernel_rfl) (frZ hs) ?_ ?_
  · exact frY rfl (k_move rfl (ev_tmp h10))
  revert hs hd h2 h4 h5 h20 h21 h22 h23 h7 h8 h9 h10 h11 h12; refine frM13 ?_; intro a hs hd h2 h4 h5 h20 h21 h22 h23 h7 h8 h9 h10 h11 h12 h37
  refine opL 1 38 (v := .bool false) (w' := w3) (by kernel_rfl) (frZ hs) ?_ ?_
  · exact frY rfl (o_not rfl (ev_tmp h37) rfl)
  clear h37; revert hs hd h2 h4 h5 h20 h21 h22 h23 h7 h8 h9 h10 h11 h12; refine frM13 ?_; intro a hs hd h2 h4 h5 h20 h21 h22 h23 h7 h8 h9 h10 h11 h12 h38
  refine opL 2 39 (v := .bool false) (w' := w3) (by kernel_rfl) (frZ hs) ?_ ?_
  · exact frY rfl (k_move rfl (ev_tmp h38))
  clear h38; revert hs hd h2 h4 h5 h20 h21 h22 h23 h7 h8 h9 h10 h11 h12; refine frM13 ?_; intro a hs hd h2 h4 h5 h20 h21 h22 h23 h7 h8 h9 h10 h11 h12 h39
  refine opL 3 40 (v := .bool false) (w' := w3) (by kernel_rfl) (frZ hs) ?z613 ?z614
  case z613 => (intro o ho; obtain rfl := Option.some.inj ho; exact ⟨wanted_at (b := false) (want := false) rfl (by kernel_rfl) h39, k_move rfl (ev_tmp h12)⟩)
  case z614 =>
  refine frN14 hs hd h2 h4 h5 h20 h21 h22 h23 h7 h8 h9 h10 h11 h12 h39 ?_; clear hs hd h2 h4 h5 h20 h21 h22 h23 h7 h8 h9 h10 h11 h12 h39; intro a hs hd h2 h4 h5 h20 h21 h22 h23 h7 h8 h9 h10 h11 h12 h39 h40
  refine opL 4 41 (v := .bool true) (w' := w3) (by kernel_rfl) (frZ hs) ?z615 ?z616
  case z615 => (intro o ho; obtain rfl := Option.some.inj ho; exact ⟨wanted_at (b := false) (want := false) rfl (by kernel_rfl) h39, o_not rfl (ev_tmp h40) rfl⟩)
  case z616 =>
  refine frN14 hs hd h2 h4 h5 h20 h21 h22 h23 h7 h8 h9 h10 h11 h12 h39 ?_; clear hs hd h2 h4 h5 h20 h21 h22 h23 h7 h8 h9 h10 h11 h12 h39 h40; intro a hs hd h2 h4 h5 h20 h21 h22 h23 h7 h8 h9 h10 h11 h12 h39 h41
  refine opL 5 42 (v := .bool true) (w' := w3) (by kernel_rfl) (frZ hs) ?_ ?_
  · exact frY rfl (k_pick_no rfl (ev_tmp h39) (ev_tmp h41))
  clear h39 h41; revert hs hd h2 h4 h5 h20 h21 h22 h23 h7 h8 h9 h10 h11 h12; refine frM13 ?_; intro a hs hd h2 h4 h5 h20 h21 h22 h23 h7 h8 h9 h10 h11 h12 h42
  refine wp_cond_true (ev_tmp h42) ?_
  refine wp_seq ?_
  refine wp_region (show wpOps _ _ _ [0, 1, 2] _ _ from ?_)
  refine opL 0 43 (v := .agg #[.int .i64 0, .int .i64 0, .int .i64 0, .int .i64 0, .slice none 0 0, .slice none 0 0, .slice none 0 0, .slice none 0 0]) (w' := w3) (by kernel_rfl) (frZ hs) ?_ ?_
  · exact frY rfl (k_buildR0 rfl)
  revert hs hd h2 h4 h5 h20 h21 h22 h23 h7 h8 h9 h10 h11 h12 h42; refine frM14 ?_; intro a hs hd h2 h4 h5 h20 h21 h22 h23 h7 h8 h9 h10 h11 h12 h42 h43
  refine opL_store 1 (w' := (w3.setRow w.heap.size #[.int .i64 0, .int .i64 0, .int .i64 0, .int .i64 0, .slice none 0 0, .slice none 0 0, .slice none 0 0, .slice none 0 0])) (by kernel_rfl) ?_ ?_
  · exact frY rfl (k_storeR rfl (ev_tmp h2) (ev_tmp h43) Q2 rfl rfl (by simp [Value.oneCell']))
  clear h43
  have Qe := Q2.setRow (cs := #[.int .i64 0, .int .i64 0, .int .i64 0, .int .i64 0, .slice none 0 0, .slice none 0 0, .slice none 0 0, .slice none 0 0])
  have le := (exc_setRow w3 w.heap.size #[.int .i64 0, .int .i64 0, .int .i64 0, .int .i64 0, .slice none 0 0, .slice none 0 0, .slice none 0 0, .slice none 0 0] w.heap.size).below (Nat.le_refl _)
  refine opL 2 3 (v := .int .i64 1) (w' := (w3.setRow w.heap.size #[.int .i64 0, .int .i64 0, .int .i64 0, .int .i64 0, .slice none 0 0, .slice none 0 0, .slice none 0 0, .slice none 0 0])) (by kernel_rfl) (frZ hs) ?_ ?_
  · exact frY rfl (k_assign rfl rfl)
  refine frN14 hs hd h2 h4 h5 h20 h21 h22 h23 h7 h8 h9 h10 h11 h12 h42 ?_; clear hs hd h2 h4 h5 h20 h21 h22 h23 h7 h8 h9 h10 h11 h12 h42; intro a hs hd h2 h4 h5 h20 h21 h22 h23 h7 h8 h9 h10 h11 h12 h42 h3
  refine wp_ret ?_
  exact hfin a _ 1 hd h2 Qe h3 (by rw [hm, estep]) (hb.trans le)

set_option maxRecDepth 100000 in
set_option maxHeartbeats 2000000 in
theorem pa_twice (w : World) (rb gb sb lo : Nat) (s : List UInt8) (hT : Tabs w) (hl : s.length ≤ 4096) (i : Nat) (r : Rfc.Ru) (g : List Bool) (a : Act) (wx : World) (Q : Exit → Act → World → Prop) (J : LpQ w rb gb sb lo s i r g a wx) (hlt : i < (Rfc.spl s 59).length) (hf : (Lib.cut ((Rfc.spl s 59)[i]) [61]).2.2 = true) (p : Nat) (hk : Rfc.part (Lib.cut ((Rfc.spl s 59)[i]) [61]).1 = some p) (hgp : g.getD p false = true) (hfin : ∀ (a' : Act) (w' : World) (n : Int), a'.defers = [] → a'.tmps.getD 2 undef = .pointer (some ⟨w.heap.size, 0, none⟩) → Blk w' w.heap.size 36 #[.int .i64 0, .int .i64 0, .int .i64 0, .int .i64 0, .slice none 0 0, .slice none 0 0, .slice none 0 0, .slice none 0 0] → a'.tmps.getD 3 undef = .int .i64 n → Rfc.runP (Rfc.spl s 59) (⟨0, 1, 0, 0, [], [], [], []⟩ : Rfc.Ru) (List.replicate 8 false) = .bad n → Below w.heap.size w w' → Q .ret a' w') :
    paRound.wp Tryz.prog (Exit.then (fun a' w' => (∃ i r g, LpQ w rb gb sb lo s i r g a' w') ∧ ((Rfc.spl s 59).length - intOf (a'.tmps.getD 22 undef)).toNat < ((Rfc.spl s 59).length - intOf (a.tmps.getD 22 undef)).toNat) Q) a wx := by
  obtain ⟨hd, hs, h2, h4, h5, h20, h21, h22, hi, hm, g8, Q2, hR, hG, hS, oo, hb⟩ := J
  have hpl : ((Rfc.spl s 59)[i]).length ≤ 100000 := Nat.le_trans (piece_le _ s 59 _ (List.getElem_mem hlt)) (by omega)
  have hcell : wx.cell? ⟨sb, i, none⟩ = some (.string ⟨(((Rfc.spl s 59)[i])).toArray⟩) := by rw [hS.cell i]; simp [hlt]
  have hspl : (Rfc.spl s 59).length ≤ 100001 := by
    rw [spl_len]
    have := Lib.countB_le ⟨#[59]⟩ (Nat.le_refl 1) _ ⟨s.toArray⟩ (Nat.le_refl _)
    rw [ba_size] at this
    omega
  have estep : Rfc.runP ((Rfc.spl s 59).drop i) r g = .bad 5 := by
    have e : Rfc.stepP ((Rfc.spl s 59)[i]) r g = .bad 5 := by
      unfold Rfc.stepP
      rw [if_neg (by rw [hf]; decide), hk]; simp only []; rw [if_pos hgp]
    rw [List.drop_eq_getElem_cons hlt, Rfc.runP, e]
  have hp := Rfc.part_lt hk
  have hgc0 : ∀ wz : World, Blk wz gb 70 (g.map Value.bool).toArray → wz.cell? ⟨gb, p, none⟩ = some (.bool true) := fun wz hz => by
    rw [hz.cell p]
    have : p < g.length := by omega
    simp [this] at hgp ⊢
    exact hgp
  have e22 := h22
  rw [e22]
  clear e22
  unfold paRound
  conv => arg 2; whnf
  refine wp_seq ?_
  refine wp_region (show wpOps _ _ _ [0] _ _ from ?_)
  refine opL 0 23 (v := .bool true) (w' := wx) (by kernel_rfl) (frZ hs) ?_ ?_
  · exact frY rfl (o_ltI rfl (ev_tmp h22) (ev_tmp h21) (decide_eq_true (by omega)))
  refine frN6 hs hd h2 h4 h5 h20 h21 h22 ?_; clear hs hd h2 h4 h5 h20 h21 h22; intro a hs hd h2 h4 h5 h20 h21 h22 h23
  refine wp_seq ?_
  refine wp_cond_true (ev_tmp h23) ?_
  refine wp_skip ?_
  refine wp_seq ?_
  refine wp_block ?_
  refine wp_seq ?_
  refine wp_region (show wpOps _ _ _ [0, 1, 2] _ _ from ?_)
  refine opL 0 24 (v := .pointer (some ⟨sb, i, none⟩)) (w' := wx) (by kernel_rfl) (frZ hs) ?_ ?_
  · exact frY rfl (k_atS' rfl (ev_tmp h20) (ev_tmp h22) hlt)
  revert hs hd h2 h4 h5 h20 h21 h22 h23; refine frM7 ?_; intro a hs hd h2 h4 h5 h20 h21 h22 h23 h24
  refine opL 1 25 (v := .string ⟨(((Rfc.spl s 59)[i])).toArray⟩) (w' := wx) (by kernel_rfl) (frZ hs) ?_ ?_
  · exact frY rfl (k_loadStr rfl (ev_tmp h24) hcell)
  clear h24; revert hs hd h2 h4 h5 h20 h21 h22 h23; refine frM7 ?_; intro a hs hd h2 h4 h5 h20 h21 h22 h23 h25
  refine opL 2 7 (v := .string ⟨(((Rfc.spl s 59)[i])).toArray⟩) (w' := wx) (by kernel_rfl) (frZ hs) ?_ ?_
  · exact frY rfl (k_assign rfl (ev_tmp h25))
  clear h25; revert hs hd h2 h4 h5 h20 h21 h22 h23; refine frM7 ?_; intro a hs hd h2 h4 h5 h20 h21 h22 h23 h7
  refine wp_seq ?_
  refine wp_region (show wpOps _ _ _ [0, 1, 2, 3, 4, 5, 6, 7, 8] _ _ from ?_)
  refine opL 0 27 (v := .string ⟨(((Rfc.spl s 59)[i])).toArray⟩) (w' := wx) (by kernel_rfl) (frZ hs) ?_ ?_
  · exact frY rfl (k_move rfl (ev_tmp h7))
  revert hs hd h2 h4 h5 h20 h21 h22 h23 h7; refine frM8 ?_; intro a hs hd h2 h4 h5 h20 h21 h22 h23 h7 h27
  have hc := cut_any ((Rfc.spl s 59)[i]) wx (hT.below hb) hpl
  have hx := fun ops Q rest d a i h1 h2 h3 => opL_call (P := Tryz.prog) (ops := ops) (Q := Q) (a := a) (w := wx) (rest := rest) i d h1 h2 h3 hc
  refine hx _ _ _ 28 _ 1 ?z635a ?z635b ?z635 ?z636
  case z635a => kernel_rfl
  case z635b => (rw [hs]; decide)
  case z635 => exact frY rfl (c_Cut rfl rfl (ev_tmp h27) rfl)
  case z636 =>
  rintro _ w2 a ⟨rfl, l2⟩ F0
  rw [hf] at F0
  replace hs := F0.z.trans hs
  replace hd := F0.e.trans hd
  replace h2 := (F0.n 2 (by decide)).trans h2
  replace h4 := (F0.n 4 (by decide)).trans h4
  replace h5 := (F0.n 5 (by decide)).trans h5
  replace h20 := (F0.n 20 (by decide)).trans h20
  replace h21 := (F0.n 21 (by decide)).trans h21
  replace h22 := (F0.n 22 (by decide)).trans h22
  replace h23 := (F0.n 23 (by decide)).trans h23
  replace h7 := (F0.n 7 (by decide)).trans h7
  clear h27
  have h28 := F0.s
  clear F0
  clear hx hc
  replace Q2 := Q2.below l2 Q2.lt
  replace hG := hG.below l2 hG.lt
  replace hS := hS.below l2 hS.lt
  replace hR := hR.exc (Exc.of (b := gb) l2) (by omega) (by omega)
  replace hb := hb.trans (l2.mono hb.size)
  have zlw2 : lo ≤ w2.heap.size := by have := l2.size; omega
  refine opL 2 26 (v := .tuple #[.string ⟨((Lib.cut ((Rfc.spl s 59)[i]) [61]).1).toArray⟩, .string ⟨((Lib.cut ((Rfc.spl s 59)[i]) [61]).2.1).toArray⟩, .bool true]) (w' := w2) (by kernel_rfl) (frZ hs) ?_ ?_
  · exact frY rfl (k_move rfl (ev_tmp h28))
  refine frN8 hs hd h2 h4 h5 h20 h21 h22 h23 h7 ?_; clear hs hd h2 h4 h5 h20 h21 h22 h23 h7 h28; intro a hs hd h2 h4 h5 h20 h21 h22 h23 h7 h26
  refine opL 3 29 (v := .string ⟨((Lib.cut ((Rfc.spl s 59)[i]) [61]).1).toArray⟩) (w' := w2) (by kernel_rfl) (frZ hs) ?_ ?_
  · exact frY rfl (k_extract rfl (ev_tmp h26) rfl)
  revert hs hd h2 h4 h5 h20 h21 h22 h23 h7 h26; refine frM9 ?_; intro a hs hd h2 h4 h5 h20 h21 h22 h23 h7 h26 h29
  refine opL 4 30 (v := .string ⟨((Lib.cut ((Rfc.spl s 59)[i]) [61]).2.1).toArray⟩) (w' := w2) (by kernel_rfl) (frZ hs) ?_ ?_
  · exact frY rfl (k_extract rfl (ev_tmp h26) rfl)
  revert hs hd h2 h4 h5 h20 h21 h22 h23 h7 h26 h29; refine frM10 ?_; intro a hs hd h2 h4 h5 h20 h21 h22 h23 h7 h26 h29 h30
  refine opL 5 31 (v := .bool true) (w' := w2) (by kernel_rfl) (frZ hs) ?_ ?_
  · exact frY rfl (k_extract rfl (ev_tmp h26) rfl)
  clear h26; revert hs hd h2 h4 h5 h20 h21 h22 h23 h7 h29 h30; refine frM10 ?_; intro a hs hd h2 h4 h5 h20 h21 h22 h23 h7 h29 h30 h31
  refine opL 6 8 (v := .string ⟨((Lib.cut ((Rfc.spl s 59)[i]) [61]).1).toArray⟩) (w' := w2) (by kernel_rfl) (frZ hs) ?_ ?_
  · exact frY rfl (k_assign rfl (ev_tmp h29))
  clear h29; revert hs hd h2 h4 h5 h20 h21 h22 h23 h7 h30 h31; refine frM10 ?_; intro a hs hd h2 h4 h5 h20 h21 h22 h23 h7 h30 h31 h8
  refine opL 7 9 (v := .string ⟨((Lib.cut ((Rfc.spl s 59)[i]) [61]).2.1).toArray⟩) (w' := w2) (by kernel_rfl) (frZ hs) ?_ ?_
  · exact frY rfl (k_assign rfl (ev_tmp h30))
  clear h30; revert hs hd h2 h4 h5 h20 h21 h22 h23 h7 h31 h8; refine frM10 ?_; intro a hs hd h2 h4 h5 h20 h21 h22 h23 h7 h31 h8 h9
  refine opL 8 10 (v := .bool true) (w' := w2) (by kernel_rfl) (frZ hs) ?_ ?_
  · exact frY rfl (k_assign rfl (ev_tmp h31))
  clear h31; revert hs hd h2 h4 h5 h20 h21 h22 h23 h7 h8 h9; refine frM10 ?_; intro a hs hd h2 h4 h5 h20 h21 h22 h23 h7 h8 h9 h10
  refine wp_seq ?_
  refine wp_region (show wpOps _ _ _ [0, 1, 2, 3, 4, 5, 6] _ _ from ?_)
  refine opL 0 33 (v := .string ⟨((Lib.cut ((Rfc.spl s 59)[i]) [61]).1).toArray⟩) (w' := w2) (by kernel_rfl) (frZ hs) ?_ ?_
  · exact frY rfl (k_move rfl (ev_tmp h8))
  revert hs hd h2 h4 h5 h20 h21 h22 h23 h7 h8 h9 h10; refine frM11 ?_; intro a hs hd h2 h4 h5 h20 h21 h22 h23 h7 h8 h9 h10 h33
  have hc := po_any (Lib.cut ((Rfc.spl s 59)[i]) [61]).1 w2 (hT.below hb)
  have hx := fun ops Q rest d a i h1 h2 h3 => opL_call (P := Tryz.prog) (ops := ops) (Q := Q) (a := a) (w := w2) (rest := rest) i d h1 h2 h3 hc
  refine hx _ _ _ 34 _ 1 ?z653a ?z653b ?z653 ?z654
  case z653a => kernel_rfl
  case z653b => (rw [hs]; decide)
  case z653 => exact frY rfl (c_partOf rfl rfl (ev_tmp h33))
  case z654 =>
  rintro _ w3 a ⟨rfl, l3⟩ F0
  rw [hk] at F0
  replace hs := F0.z.trans hs
  replace hd := F0.e.trans hd
  replace h2 := (F0.n 2 (by decide)).trans h2
  replace h4 := (F0.n 4 (by decide)).trans h4
  replace h5 := (F0.n 5 (by decide)).trans h5
  replace h20 := (F0.n 20 (by decide)).trans h20
  replace h21 := (F0.n 21 (by decide)).trans h21
  replace h22 := (F0.n 22 (by decide)).trans h22
  replace h23 := (F0.n 23 (by decide)).trans h23
  replace h7 := (F0.n 7 (by decide)).trans h7
  replace h8 := (F0.n 8 (by decide)).trans h8
  replace h9 := (F0.n 9 (by decide)).trans h9
  replace h10 := (F0.n 10 (by decide)).trans h10
  clear h33
  have h34 := F0.s
  clear F0
  clear hx hc
  replace Q2 := Q2.below l3 Q2.lt
  replace hG := hG.below l3 hG.lt
  replace hS := hS.below l3 hS.lt
  replace hR := hR.exc (Exc.of (b := gb) l3) (by omega) (by omega)
  replace hb := hb.trans (l3.mono hb.size)
  have zlw3 : lo ≤ w3.heap.size := by have := l3.size; omega
  refine opL 2 32 (v := .tuple #[.int .i64 p, .bool true]) (w' := w3) (by kernel_rfl) (frZ hs) ?_ ?_
  · exact frY rfl (k_move rfl (ev_tmp h34))
  refine frN11 hs hd h2 h4 h5 h20 h21 h22 h23 h7 h8 h9 h10 ?_; clear hs hd h2 h4 h5 h20 h21 h22 h23 h7 h8 h9 h10 h34; intro a hs hd h2 h4 h5 h20 h21 h22 h23 h7 h8 h9 h10 h32
  refine opL 3 35 (v := .int .i64 p) (w' := w3) (by kernel_rfl) (frZ hs) ?_ ?_
  · exact frY rfl (k_extract rfl (ev_tmp h32) rfl)
  revert hs hd h2 h4 h5 h20 h21 h22 h23 h7 h8 h9 h10 h32; refine frM12 ?_; intro a hs hd h2 h4 h5 h20 h21 h22 h23 h7 h8 h9 h10 h32 h35
  refine opL 4 36 (v := .bool true) (w' := w3) (by kernel_rfl) (frZ hs) ?_ ?_
  · exact frY rfl (k_extract rfl (ev_tmp h32) rfl)
  clear h32; revert hs hd h2 h4 h5 h20 h21 h22 h23 h7 h8 h9 h10 h35; refine frM12 ?_; intro a hs hd h2 h4 h5 h20 h21 h22 h23 h7 h8 h9 h10 h35 h36
  refine opL 5 11 (v := .int .i64 p) (w' := w3) (by kernel_rfl) (frZ hs) ?_ ?_
  · exact frY rfl (k_assign rfl (ev_tmp h35))
  clear h35; revert hs hd h2 h4 h5 h20 h21 h22 h23 h7 h8 h9 h10 h36; refine frM12 ?_; intro a hs hd h2 h4 h5 h20 h21 h22 h23 h7 h8 h9 h10 h36 h11
  refine opL 6 12 (v := .bool true) (w' := w3) (by kernel_rfl) (frZ hs) ?_ ?_
  · exact frY rfl (k_assign rfl (ev_tmp h36))
  clear h36; revert hs hd h2 h4 h5 h20 h21 h22 h23 h7 h8 h9 h10 h11; refine frM12 ?_; intro a hs hd h2 h4 h5 h20 h21 h22 h23 h7 h8 h9 h10 h11 h12
  refine wp_seq ?_
  refine wp_seq ?_
  refine wp_region (show wpOps _ _ _ [0, 1, 2, 3, 4, 5] _ _ from ?_)
  refine opL 0 37 (v := .bool true) (w' := w3) (by kernel_rfl) (frZ hs) ?_ ?_
  · exact frY rfl (k_move rfl (ev_tmp h10))
  revert hs hd h2 h4 h5 h20 h21 h22 h23 h7 h8 h9 h10 h11 h12; refine frM13 ?_; intro a hs hd h2 h4 h5 h20 h21 h22 h23 h7 h8 h9 h10 h11 h12 h37
  refine opL 1 38 (v := .bool false) (w' := w3) (by kernel_rfl) (frZ hs) ?_ ?_
  · exact frY rfl (o_not rfl (ev_tmp h37) rfl)
  clear h37; revert hs hd h2 h4 h5 h20 h21 h22 h23 h7 h8 h9 h10 h11 h12; refine frM13 ?_; intro a hs hd h2 h4 h5 h20 h21 h22 h23 h7 h8 h9 h10 h11 h12 h38
  refine opL 2 39 (v := .bool false) (w' := w3) (by kernel_rfl) (frZ hs) ?_ ?_
  · exact frY rfl (k_move rfl (ev_tmp h38))
  clear h38; revert hs hd h2 h4 h5 h20 h21 h22 h23 h7 h8 h9 h10 h11 h12; refine frM13 ?_; intro a hs hd h2 h4 h5 h20 h21 h22 h23 h7 h8 h9 h10 h11 h12 h39
  refine opL 3 40 (v := .bool true) (w' := w3) (by kernel_rfl) (frZ hs) ?z671 ?z672
  case z671 => (intro o ho; obtain rfl := Option.some.inj ho; exact ⟨wanted_at (b := false) (want := false) rfl (by kernel_rfl) h39, k_move rfl (ev_tmp h12)⟩)
  case z672 =>
  refine frN14 hs hd h2 h4 h5 h20 h21 h22 h23 h7 h8 h9 h10 h11 h12 h39 ?_; clear hs hd h2 h4 h5 h20 h21 h22 h23 h7 h8 h9 h10 h11 h12 h39; intro a hs hd h2 h4 h5 h20 h21 h22 h23 h7 h8 h9 h10 h11 h12 h39 h40
  refine opL 4 41 (v := .bool false) (w' := w3) (by kernel_rfl) (frZ hs) ?z673 ?z674
  case z673 => (intro o ho; obtain rfl := Option.some.inj ho; exact ⟨wanted_at (b := false) (want := false) rfl (by kernel_rfl) h39, o_not rfl (ev_tmp h40) rfl⟩)
  case z674 =>
  refine frN14 hs hd h2 h4 h5 h20 h21 h22 h23 h7 h8 h9 h10 h11 h12 h39 ?_; clear hs hd h2 h4 h5 h20 h21 h22 h23 h7 h8 h9 h10 h11 h12 h39 h40; intro a hs hd h2 h4 h5 h20 h21 h22 h23 h7 h8 h9 h10 h11 h12 h39 h41
  refine opL 5 42 (v := .bool false) (w' := w3) (by kernel_rfl) (frZ hs) ?_ ?_
  · exact frY rfl (k_pick_no rfl (ev_tmp h39) (ev_tmp h41))
  clear h39 h41; revert hs hd h2 h4 h5 h20 h21 h22 h23 h7 h8 h9 h10 h11 h12; refine frM13 ?_; intro a hs hd h2 h4 h5 h20 h21 h22 h23 h7 h8 h9 h10 h11 h12 h42
  refine wp_cond_false (ev_tmp h42) ?_
  refine wp_skip ?_
  refine wp_seq ?_
  refine wp_seq ?_
  refine wp_region (show wpOps _ _ _ [0, 1, 2] _ _ from ?_)
  refine opL 0 44 (v := .int .i64 p) (w' := w3) (by kernel_rfl) (frZ hs) ?_ ?_
  · exact frY rfl (k_move rfl (ev_tmp h11))
  revert hs hd h2 h4 h5 h20 h21 h22 h23 h7 h8 h9 h10 h11 h12 h42; refine frM14 ?_; intro a hs hd h2 h4 h5 h20 h21 h22 h23 h7 h8 h9 h10 h11 h12 h42 h44
  refine opL 1 45 (v := .pointer (some ⟨gb, p, none⟩)) (w' := w3) (by kernel_rfl) (frZ hs) ?_ ?_
  · exact frY rfl (k_atG rfl (ev_tmp h5) (ev_tmp h44) hp)
  clear h44; revert hs hd h2 h4 h5 h20 h21 h22 h23 h7 h8 h9 h10 h11 h12 h42; refine frM14 ?_; intro a hs hd h2 h4 h5 h20 h21 h22 h23 h7 h8 h9 h10 h11 h12 h42 h45
  refine opL 2 46 (v := .bool true) (w' := w3) (by kernel_rfl) (frZ hs) ?_ ?_
  · exact frY rfl (k_loadBool rfl (ev_tmp h45) (hgc0 _ hG))
  clear h45; revert hs hd h2 h4 h5 h20 h21 h22 h23 h7 h8 h9 h10 h11 h12 h42; refine frM14 ?_; intro a hs hd h2 h4 h5 h20 h21 h22 h23 h7 h8 h9 h10 h11 h12 h42 h46
  refine wp_cond_true (ev_tmp h46) ?_
  refine wp_seq ?_
  refine wp_region (show wpOps _ _ _ [0, 1, 2] _ _ from ?_)
  refine opL 0 47 (v := .agg #[.int .i64 0, .int .i64 0, .int .i64 0, .int .i64 0, .slice none 0 0, .slice none 0 0, .slice none 0 0, .slice none 0 0]) (w' := w3) (by kernel_rfl) (frZ hs) ?_ ?_
  · exact frY rfl (k_buildR0 rfl)
  revert hs hd h2 h4 h5 h20 h21 h22 h23 h7 h8 h9 h10 h11 h12 h42 h46; refine frM15 ?_; intro a hs hd h2 h4 h5 h20 h21 h22 h23 h7 h8 h9 h10 h11 h12 h42 h46 h47
  refine opL_store 1 (w' := (w3.setRow w.heap.size #[.int .i64 0, .int .i64 0, .int .i64 0, .int .i64 0, .slice none 0 0, .slice none 0 0, .slice none 0 0, .slice none 0 0])) (by kernel_rfl) ?_ ?_
  · exact frY rfl (k_storeR rfl (ev_tmp h2) (ev_tmp h47) Q2 rfl rfl (by simp [Value.oneCell']))
  clear h47
  have Qe := Q2.setRow (cs := #[.int .i64 0, .int .i64 0, .int .i64 0, .int .i64 0, .slice none 0 0, .slice none 0 0, .slice none 0 0, .slice none 0 0])
  have le := (exc_setRow w3 w.heap.size #[.int .i64 0, .int .i64 0, .int .i64 0, .int .i64 0, .slice none 0 0, .slice none 0 0, .slice none 0 0, .slice none 0 0] w.heap.size).below (Nat.le_refl _)
  refine opL 2 3 (v := .int .i64 5) (w' := (w3.setRow w.heap.size #[.int .i64 0, .int .i64 0, .int .i64 0, .int .i64 0, .slice none 0 0, .slice none 0 0, .slice none 0 0, .slice none 0 0])) (by kernel_rfl) (frZ hs) ?_ ?_
  · exact frY rfl (k_assign rfl rfl)
  refine frN15 hs hd h2 h4 h5 h20 h21 h22 h23 h7 h8 h9 h10 h11 h12 h42 h46 ?_; clear hs hd h2 h4 h5 h20 h21 h22 h23 h7 h8 h9 h10 h11 h12 h42 h46; intro a hs hd h2 h4 h5 h20 h21 h22 h23 h7 h8 h9 h10 h11 h12 h42 h46 h3
  refine wp_ret ?_
  exact hfin a _ 5 hd h2 Qe h3 (by rw [hm, estep]) (hb.trans le)

set_option maxRecDepth 100000 in
set_option maxHeartbeats 2000000 in
theorem pa_badval (w : World) (rb gb sb lo : Nat) (s : List UInt8) (hT : Tabs w) (hl : s.length ≤ 4096) (i : Nat) (r : Rfc.Ru) (g : List Bool) (a : Act) (wx : World) (Q : Exit → Act → World → Prop) (J : LpQ w rb gb sb lo s i r g a wx) (hlt : i < (Rfc.spl s 59).length) (hf : (Lib.cut ((Rfc.spl s 59)[i]) [61]).2.2 = true) (p : Nat) (hk : Rfc.part (Lib.cut ((Rfc.spl s 59)[i]) [61]).1 = some p) (hgp : g.getD p false = false) (hv : Rfc.setF p (Lib.cut ((Rfc.spl s 59)[i]) [61]).2.1 r = none) (hfin : ∀ (a' : Act) (w' : World) (n : Int), a'.defers = [] → a'.tmps.getD 2 undef = .pointer (some ⟨w.heap.size, 0, none⟩) → Blk w' w.heap.size 36 #[.int .i64 0, .int .i64 0, .int .i64 0, .int .i64 0, .slice none 0 0, .slice none 0 0, .slice none 0 0, .slice none 0 0] → a'.tmps.getD 3 undef = .int .i64 n → Rfc.runP (Rfc.spl s 59) (⟨0, 1, 0, 0, [], [], [], []⟩ : Rfc.Ru) (List.replicate 8 false) = .bad n → Below w.heap.size w w' → Q .ret a' w') :
    paRound.wp Tryz.prog (Exit.then (fun a' w' => (∃ i r g, LpQ w rb gb sb lo s i r g a' w') ∧ ((Rfc.spl s 59).length - intOf (a'.tmps.getD 22 undef)).toNat < ((Rfc.spl s 59).length - intOf (a.tmps.getD 22 undef)).toNat) Q) a wx := by
  obtain ⟨hd, hs, h2, h4, h5, h20, h21, h22, hi, hm, g8, Q2, hR, hG, hS, oo, hb⟩ := J
  have hpl : ((Rfc.spl s 59)[i]).length ≤ 100000 := Nat.le_trans (piece_le _ s 59 _ (List.getElem_mem hlt)) (by omega)
  have hcell : wx.cell? ⟨sb, i, none⟩ = some (.string ⟨(((Rfc.spl s 59)[i])).toArray⟩) := by rw [hS.cell i]; simp [hlt]
  have hspl : (Rfc.spl s 59).length ≤ 100001 := by
    rw [spl_len]
    have := Lib.countB_le ⟨#[59]⟩ (Nat.le_refl 1) _ ⟨s.toArray⟩ (Nat.le_refl _)
    rw [ba_size] at this
    omega
  have estep : Rfc.runP ((Rfc.spl s 59).drop i) r g = .bad 1 := by
    have e : Rfc.stepP ((Rfc.spl s 59)[i]) r g = .bad 1 := by
      unfold Rfc.stepP
      rw [if_neg (by rw [hf]; decide), hk]; simp only []; rw [if_neg (by rw [hgp]; decide), hv]
    rw [List.drop_eq_getElem_cons hlt, Rfc.runP, e]
  have hp := Rfc.part_lt hk
  have hgc0 : ∀ wz : World, Blk wz gb 70 (g.map Value.bool).toArray → wz.cell? ⟨gb, p, none⟩ = some (.bool false) := fun wz hz => by
    rw [hz.cell p]
    have : p < g.length := by omega
    simp [this] at hgp ⊢
    exact hgp
  have e22 := h22
  rw [e22]
  clear e22
  unfold paRound
  conv => arg 2; whnf
  refine wp_seq ?_
  refine wp_region (show wpOps _ _ _ [0] _ _ from ?_)
  refine opL 0 23 (v := .bool true) (w' := wx) (by kernel_rfl) (frZ hs) ?_ ?_
  · exact frY rfl (o_ltI rfl (ev_tmp h22) (ev_tmp h21) (decide_eq_true (by omega)))
  refine frN6 hs hd h2 h4 h5 h20 h21 h22 ?_; clear hs hd h2 h4 h5 h20 h21 h22; intro a hs hd h2 h4 h5 h20 h21 h22 h23
  refine wp_seq ?_
  refine wp_cond_true (ev_tmp h23) ?_
  refine wp_skip ?_
  refine wp_seq ?_
  refine wp_block ?_
  refine wp_seq ?_
  refine wp_region (show wpOps _ _ _ [0, 1, 2] _ _ from ?_)
  refine opL 0 24 (v := .pointer (some ⟨sb, i, none⟩)) (w' := wx) (by kernel_rfl) (frZ hs) ?_ ?_
  · exact frY rfl (k_atS' rfl (ev_tmp h20) (ev_tmp h22) hlt)
  revert hs hd h2 h4 h5 h20 h21 h22 h23; refine frM7 ?_; intro a hs hd h2 h4 h5 h20 h21 h22 h23 h24
  refine opL 1 25 (v := .string ⟨(((Rfc.spl s 59)[i])).toArray⟩) (w' := wx) (by kernel_rfl) (frZ hs) ?_ ?_
  · exact frY rfl (k_loadStr rfl (ev_tmp h24) hcell)
  clear h24; revert hs hd h2 h4 h5 h20 h21 h22 h23; refine frM7 ?_; intro a hs hd h2 h4 h5 h20 h21 h22 h23 h25
  refine opL 2 7 (v := .string ⟨(((Rfc.spl s 59)[i])).toArray⟩) (w' := wx) (by kernel_rfl) (frZ hs) ?_ ?_
  · exact frY rfl (k_assign rfl (ev_tmp h25))
  clear h25; revert hs hd h2 h4 h5 h20 h21 h22 h23; refine frM7 ?_; intro a hs hd h2 h4 h5 h20 h21 h22 h23 h7
  refine wp_seq ?_
  refine wp_region (show wpOps _ _ _ [0, 1, 2, 3, 4, 5, 6, 7, 8] _ _ from ?_)
  refine opL 0 27 (v := .string ⟨(((Rfc.spl s 59)[i])).toArray⟩) (w' := wx) (by kernel_rfl) (frZ hs) ?_ ?_
  · exact frY rfl (k_move rfl (ev_tmp h7))
  revert hs hd h2 h4 h5 h20 h21 h22 h23 h7; refine frM8 ?_; intro a hs hd h2 h4 h5 h20 h21 h22 h23 h7 h27
  have hc := cut_any ((Rfc.spl s 59)[i]) wx (hT.below hb) hpl
  have hx := fun ops Q rest d a i h1 h2 h3 => opL_call (P := Tryz.prog) (ops := ops) (Q := Q) (a := a) (w := wx) (rest := rest) i d h1 h2 h3 hc
  refine hx _ _ _ 28 _ 1 ?z699a ?z699b ?z699 ?z700
  case z699a => kernel_rfl
  case z699b => (rw [hs]; decide)
  case z699 => exact frY rfl (c_Cut rfl rfl (ev_tmp h27) rfl)
  case z700 =>
  rintro _ w2 a ⟨rfl, l2⟩ F0
  rw [hf] at F0
  replace hs := F0.z.trans hs
  replace hd := F0.e.trans hd
  replace h2 := (F0.n 2 (by decide)).trans h2
  replace h4 := (F0.n 4 (by decide)).trans h4
  replace h5 := (F0.n 5 (by decide)).trans h5
  replace h20 := (F0.n 20 (by decide)).trans h20
  replace h21 := (F0.n 21 (by decide)).trans h21
  replace h22 := (F0.n 22 (by decide)).trans h22
  replace h23 := (F0.n 23 (by decide)).trans h23
  replace h7 := (F0.n 7 (by decide)).trans h7
  clear h27
  have h28 := F0.s
  clear F0
  clear hx hc
  replace Q2 := Q2.below l2 Q2.lt
  replace hG := hG.below l2 hG.lt
  replace hS := hS.below l2 hS.lt
  replace hR := hR.exc (Exc.of (b := gb) l2) (by omega) (by omega)
  replace hb := hb.trans (l2.mono hb.size)
  have zlw2 : lo ≤ w2.heap.size := by have := l2.size; omega
  refine opL 2 26 (v := .tuple #[.string ⟨((Lib.cut ((Rfc.spl s 59)[i]) [61]).1).toArray⟩, .string ⟨((Lib.cut ((Rfc.spl s 59)[i]) [61]).2.1).toArray⟩, .bool true]) (w' := w2) (by kernel_rfl) (frZ hs) ?_ ?_
  · exact frY rfl (k_move rfl (ev_tmp h28))
  refine frN8 hs hd h2 h4 h5 h20 h21 h22 h23 h7 ?_; clear hs hd h2 h4 h5 h20 h21 h22 h23 h7 h28; intro a hs hd h2 h4 h5 h20 h21 h22 h23 h7 h26
  refine opL 3 29 (v := .string ⟨((Lib.cut ((Rfc.spl s 59)[i]) [61]).1).toArray⟩) (w' := w2) (by kernel_rfl) (frZ hs) ?_ ?_
  · exact frY rfl (k_extract rfl (ev_tmp h26) rfl)
  revert hs hd h2 h4 h5 h20 h21 h22 h23 h7 h26; refine frM9 ?_; intro a hs hd h2 h4 h5 h20 h21 h22 h23 h7 h26 h29
  refine opL 4 30 (v := .string ⟨((Lib.cut ((Rfc.spl s 59)[i]) [61]).2.1).toArray⟩) (w' := w2) (by kernel_rfl) (frZ hs) ?_ ?_
  · exact frY rfl (k_extract rfl (ev_tmp h26) rfl)
  revert hs hd h2 h4 h5 h20 h21 h22 h23 h7 h26 h29; refine frM10 ?_; intro a hs hd h2 h4 h5 h20 h21 h22 h23 h7 h26 h29 h30
  refine opL 5 31 (v := .bool true) (w' := w2) (by kernel_rfl) (frZ hs) ?_ ?_
  · exact frY rfl (k_extract rfl (ev_tmp h26) rfl)
  clear h26; revert hs hd h2 h4 h5 h20 h21 h22 h23 h7 h29 h30; refine frM10 ?_; intro a hs hd h2 h4 h5 h20 h21 h22 h23 h7 h29 h30 h31
  refine opL 6 8 (v := .string ⟨((Lib.cut ((Rfc.spl s 59)[i]) [61]).1).toArray⟩) (w' := w2) (by kernel_rfl) (frZ hs) ?_ ?_
  · exact frY rfl (k_assign rfl (ev_tmp h29))
  clear h29; revert hs hd h2 h4 h5 h20 h21 h22 h23 h7 h30 h31; refine frM10 ?_; intro a hs hd h2 h4 h5 h20 h21 h22 h23 h7 h30 h31 h8
  refine opL 7 9 (v := .string ⟨((Lib.cut ((Rfc.spl s 59)[i]) [61]).2.1).toArray⟩) (w' := w2) (by kernel_rfl) (frZ hs) ?_ ?_
  · exact frY rfl (k_assign rfl (ev_tmp h30))
  clear h30; revert hs hd h2 h4 h5 h20 h21 h22 h23 h7 h31 h8; refine frM10 ?_; intro a hs hd h2 h4 h5 h20 h21 h22 h23 h7 h31 h8 h9
  refine opL 8 10 (v := .bool true) (w' := w2) (by kernel_rfl) (frZ hs) ?_ ?_
  · exact frY rfl (k_assign rfl (ev_tmp h31))
  clear h31; revert hs hd h2 h4 h5 h20 h21 h22 h23 h7 h8 h9; refine frM10 ?_; intro a hs hd h2 h4 h5 h20 h21 h22 h23 h7 h8 h9 h10
  refine wp_seq ?_
  refine wp_region (show wpOps _ _ _ [0, 1, 2, 3, 4, 5, 6] _ _ from ?_)
  refine opL 0 33 (v := .string ⟨((Lib.cut ((Rfc.spl s 59)[i]) [61]).1).toArray⟩) (w' := w2) (by kernel_rfl) (frZ hs) ?_ ?_
  · exact frY rfl (k_move rfl (ev_tmp h8))
  revert hs hd h2 h4 h5 h20 h21 h22 h23 h7 h8 h9 h10; refine frM11 ?_; intro a hs hd h2 h4 h5 h20 h21 h22 h23 h7 h8 h9 h10 h33
  have hc := po_any (Lib.cut ((Rfc.spl s 59)[i]) [61]).1 w2 (hT.below hb)
  have hx := fun ops Q rest d a i h1 h2 h3 => opL_call (P := Tryz.prog) (ops := ops) (Q := Q) (a := a) (w := w2) (rest := rest) i d h1 h2 h3 hc
  refine hx _ _ _ 34 _ 1 ?z717a ?z717b ?z717 ?z718
  case z717a => kernel_rfl
  case z717b => (rw [hs]; decide)
  case z717 => exact frY rfl (c_partOf rfl rfl (ev_tmp h33))
  case z718 =>
  rintro _ w3 a ⟨rfl, l3⟩ F0
  rw [hk] at F0
  replace hs := F0.z.trans hs
  replace hd := F0.e.trans hd
  replace h2 := (F0.n 2 (by decide)).trans h2
  replace h4 := (F0.n 4 (by decide)).trans h4
  replace h5 := (F0.n 5 (by decide)).trans h5
  replace h20 := (F0.n 20 (by decide)).trans h20
  replace h21 := (F0.n 21 (by decide)).trans h21
  replace h22 := (F0.n 22 (by decide)).trans h22
  replace h23 := (F0.n 23 (by decide)).trans h23
  replace h7 := (F0.n 7 (by decide)).trans h7
  replace h8 := (F0.n 8 (by decide)).trans h8
  replace h9 := (F0.n 9 (by decide)).trans h9
  replace h10 := (F0.n 10 (by decide)).trans h10
  clear h33
  have h34 := F0.s
  clear F0
  clear hx hc
  replace Q2 := Q2.below l3 Q2.lt
  replace hG := hG.below l3 hG.lt
  replace hS := hS.below l3 hS.lt
  replace hR := hR.exc (Exc.of (b := gb) l3) (by omega) (by omega)
  replace hb := hb.trans (l3.mono hb.size)
  have zlw3 : lo ≤ w3.heap.size := by have := l3.size; omega
  refine opL 2 32 (v := .tuple #[.int .i64 p, .bool true]) (w' := w3) (by kernel_rfl) (frZ hs) ?_ ?_
  · exact frY rfl (k_move rfl (ev_tmp h34))
  refine frN11 hs hd h2 h4 h5 h20 h21 h22 h23 h7 h8 h9 h10 ?_; clear hs hd h2 h4 h5 h20 h21 h22 h23 h7 h8 h9 h10 h34; intro a hs hd h2 h4 h5 h20 h21 h22 h23 h7 h8 h9 h10 h32
  refine opL 3 35 (v := .int .i64 p) (w' := w3) (by kernel_rfl) (frZ hs) ?_ ?_
  · exact frY rfl (k_extract rfl (ev_tmp h32) rfl)
  revert hs hd h2 h4 h5 h20 h21 h22 h23 h7 h8 h9 h10 h32; refine frM12 ?_; intro a hs hd h2 h4 h5 h20 h21 h22 h23 h7 h8 h9 h10 h32 h35
  refine opL 4 36 (v := .bool true) (w' := w3) (by kernel_rfl) (frZ hs) ?_ ?_
  · exact frY rfl (k_extract rfl (ev_tmp h32) rfl)
  clear h32; revert hs hd h2 h4 h5 h20 h21 h22 h23 h7 h8 h9 h10 h35; refine frM12 ?_; intro a hs hd h2 h4 h5 h20 h21 h22 h23 h7 h8 h9 h10 h35 h36
  refine opL 5 11 (v := .int .i64 p) (w' := w3) (by kernel_rfl) (frZ hs) ?_ ?_
  · exact frY rfl (k_assign rfl (ev_tmp h35))
  clear h35; revert hs hd h2 h4 h5 h20 h21 h22 h23 h7 h8 h9 h10 h36; refine frM12 ?_; intro a hs hd h2 h4 h5 h20 h21 h22 h23 h7 h8 h9 h10 h36 h11
  refine opL 6 12 (v := .bool true) (w' := w3) (by kernel_rfl) (frZ hs) ?_ ?_
  · exact frY rfl (k_assign rfl (ev_tmp h36))
  clear h36; revert hs hd h2 h4 h5 h20 h21 h22 h23 h7 h8 h9 h10 h11; refine frM12 ?_; intro a hs hd h2 h4 h5 h20 h21 h22 h23 h7 h8 h9 h10 h11 h12
  refine wp_seq ?_
  refine wp_seq ?_
  refine wp_region (show wpOps _ _ _ [0, 1, 2, 3, 4, 5] _ _ from ?_)
  refine opL 0 37 (v := .bool true) (w' := w3) (by kernel_rfl) (frZ hs) ?_ ?_
  · exact frY rfl (k_move rfl (ev_tmp h10))
  revert hs hd h2 h4 h5 h20 h21 h22 h23 h7 h8 h9 h10 h11 h12; refine frM13 ?_; intro a hs hd h2 h4 h5 h20 h21 h22 h23 h7 h8 h9 h10 h11 h12 h37
  refine opL 1 38 (v := .bool false) (w' := w3) (by kernel_rfl) (frZ hs) ?_ ?_
  · exact frY rfl (o_not rfl (ev_tmp h37) rfl)
  clear h37; revert hs hd h2 h4 h5 h20 h21 h22 h23 h7 h8 h9 h10 h11 h12; refine frM13 ?_; intro a hs hd h2 h4 h5 h20 h21 h22 h23 h7 h8 h9 h10 h11 h12 h38
  refine opL 2 39 (v := .bool false) (w' := w3) (by kernel_rfl) (frZ hs) ?_ ?_
  · exact frY rfl (k_move rfl (ev_tmp h38))
  clear h38; revert hs hd h2 h4 h5 h20 h21 h22 h23 h7 h8 h9 h10 h11 h12; refine frM13 ?_; intro a hs hd h2 h4 h5 h20 h21 h22 h23 h7 h8 h9 h10 h11 h12 h39
  refine opL 3 40 (v := .bool true) (w' := w3) (by kernel_rfl) (frZ hs) ?z735 ?z736
  case z735 => (intro o ho; obtain rfl := Option.some.inj ho; exact ⟨wanted_at (b := false) (want := false) rfl (by kernel_rfl) h39, k_move rfl (ev_tmp h12)⟩)
  case z736 =>
  refine frN14 hs hd h2 h4 h5 h20 h21 h22 h23 h7 h8 h9 h10 h11 h12 h39 ?_; clear hs hd h2 h4 h5 h20 h21 h22 h23 h7 h8 h9 h10 h11 h12 h39; intro a hs hd h2 h4 h5 h20 h21 h22 h23 h7 h8 h9 h10 h11 h12 h39 h40
  refine opL 4 41 (v := .bool false) (w' := w3) (by kernel_rfl) (frZ hs) ?z737 ?z738
  case z737 => (intro o ho; obtain rfl := Option.some.inj ho; exact ⟨wanted_at (b := false) (want := false) rfl (by kernel_rfl) h39, o_not rfl (ev_tmp h40) rfl⟩)
  case z738 =>
  refine frN14 hs hd h2 h4 h5 h20 h21 h22 h23 h7 h8 h9 h10 h11 h12 h39 ?_; clear hs hd h2 h4 h5 h20 h21 h22 h23 h7 h8 h9 h10 h11 h12 h39 h40; intro a hs hd h2 h4 h5 h20 h21 h22 h23 h7 h8 h9 h10 h11 h12 h39 h41
  refine opL 5 42 (v := .bool false) (w' := w3) (by kernel_rfl) (frZ hs) ?_ ?_
  · exact frY rfl (k_pick_no rfl (ev_tmp h39) (ev_tmp h41))
  clear h39 h41; revert hs hd h2 h4 h5 h20 h21 h22 h23 h7 h8 h9 h10 h11 h12; refine frM13 ?_; intro a hs hd h2 h4 h5 h20 h21 h22 h23 h7 h8 h9 h10 h11 h12 h42
  refine wp_cond_false (ev_tmp h42) ?_
  refine wp_skip ?_
  refine wp_seq ?_
  refine wp_seq ?_
  refine wp_region (show wpOps _ _ _ [0, 1, 2] _ _ from ?_)
  refine opL 0 44 (v := .int .i64 p) (w' := w3) (by kernel_rfl) (frZ hs) ?_ ?_
  · exact frY rfl (k_move rfl (ev_tmp h11))
  revert hs hd h2 h4 h5 h20 h21 h22 h23 h7 h8 h9 h10 h11 h12 h42; refine frM14 ?_; intro a hs hd h2 h4 h5 h20 h21 h22 h23 h7 h8 h9 h10 h11 h12 h42 h44
  refine opL 1 45 (v := .pointer (some ⟨gb, p, none⟩)) (w' := w3) (by kernel_rfl) (frZ hs) ?_ ?_
  · exact frY rfl (k_atG rfl (ev_tmp h5) (ev_tmp h44) hp)
  clear h44; revert hs hd h2 h4 h5 h20 h21 h22 h23 h7 h8 h9 h10 h11 h12 h42; refine frM14 ?_; intro a hs hd h2 h4 h5 h20 h21 h22 h23 h7 h8 h9 h10 h11 h12 h42 h45
  refine opL 2 46 (v := .bool false) (w' := w3) (by kernel_rfl) (frZ hs) ?_ ?_
  · exact frY rfl (k_loadBool rfl (ev_tmp h45) (hgc0 _ hG))
  clear h45; revert hs hd h2 h4 h5 h20 h21 h22 h23 h7 h8 h9 h10 h11 h12 h42; refine frM14 ?_; intro a hs hd h2 h4 h5 h20 h21 h22 h23 h7 h8 h9 h10 h11 h12 h42 h46
  refine wp_cond_false (ev_tmp h46) ?_
  refine wp_skip ?_
  refine wp_seq ?_
  refine wp_region (show wpOps _ _ _ [0, 1, 2] _ _ from ?_)
  refine opL 0 48 (v := .int .i64 p) (w' := w3) (by kernel_rfl) (frZ hs) ?_ ?_
  · exact frY rfl (k_move rfl (ev_tmp h11))
  revert hs hd h2 h4 h5 h20 h21 h22 h23 h7 h8 h9 h10 h11 h12 h42 h46; refine frM15 ?_; intro a hs hd h2 h4 h5 h20 h21 h22 h23 h7 h8 h9 h10 h11 h12 h42 h46 h48
  refine opL 1 49 (v := .pointer (some ⟨gb, p, none⟩)) (w' := w3) (by kernel_rfl) (frZ hs) ?_ ?_
  · exact frY rfl (k_atG rfl (ev_tmp h5) (ev_tmp h48) hp)
  clear h48; revert hs hd h2 h4 h5 h20 h21 h22 h23 h7 h8 h9 h10 h11 h12 h42 h46; refine frM15 ?_; intro a hs hd h2 h4 h5 h20 h21 h22 h23 h7 h8 h9 h10 h11 h12 h42 h46 h49
  refine opL_store 2 (w' := (w3.setCell ⟨gb, p, none⟩ (.bool true))) (by kernel_rfl) ?_ ?_
  · exact frY rfl (k_storeBool rfl (ev_tmp h49) rfl hG (by simp [g8]; omega))
  clear h49
  obtain ⟨w4, hw4⟩ : ∃ wn, wn = w3.setCell ⟨gb, p, none⟩ (.bool true) := ⟨_, rfl⟩
  rw [← hw4]
  have hG4 : Blk w4 gb 70 ((g.set p true).map Value.bool).toArray := by rw [hw4]; have := hG.set p (.bool true); rw [show ((g.map Value.bool).toArray).setIfInBounds p (.bool true) = ((g.set p true).map Value.bool).toArray by simp [List.map_set]] at this; exact this
  have e4 : ∀ B, Exc B gb w3 w4 := by rw [hw4]; exact exc_set w3 gb p _
  clear hw4
  replace Q2 := Q2.exc (e4 w3.heap.size) Q2.lt (by omega)
  replace hS := hS.exc (e4 w3.heap.size) hS.lt (by omega)
  replace hR := hR.exc (e4 w3.heap.size) (by omega) (by omega)
  replace hb := hb.trans ((e4 w.heap.size).below (by omega))
  have zl4 : lo ≤ w4.heap.size := Nat.le_trans zlw3 (e4 0).size
  refine wp_seq ?_
  refine wp_region (show wpOps _ _ _ [0, 1, 2, 3] _ _ from ?_)
  refine opL 0 50 (v := .int .i64 p) (w' := w4) (by kernel_rfl) (frZ hs) ?_ ?_
  · exact frY rfl (k_move rfl (ev_tmp h11))
  refine frN15 hs hd h2 h4 h5 h20 h21 h22 h23 h7 h8 h9 h10 h11 h12 h42 h46 ?_; clear hs hd h2 h4 h5 h20 h21 h22 h23 h7 h8 h9 h10 h11 h12 h42 h46; intro a hs hd h2 h4 h5 h20 h21 h22 h23 h7 h8 h9 h10 h11 h12 h42 h46 h50
  refine opL 1 51 (v := .string ⟨((Lib.cut ((Rfc.spl s 59)[i]) [61]).2.1).toArray⟩) (w' := w4) (by kernel_rfl) (frZ hs) ?_ ?_
  · exact frY rfl (k_move rfl (ev_tmp h9))
  revert hs hd h2 h4 h5 h20 h21 h22 h23 h7 h8 h9 h10 h11 h12 h42 h46 h50; refine frM16 ?_; intro a hs hd h2 h4 h5 h20 h21 h22 h23 h7 h8 h9 h10 h11 h12 h42 h46 h50 h51
  have hc := sv_any p hp rb lo r (Lib.cut ((Rfc.spl s 59)[i]) [61]).2.1 w4 (hT.below hb) (Nat.le_trans (cut_le _) hpl) hR ⟨by omega, zl4⟩
  have hx := fun ops Q rest d a i h1 h2 h3 => opL_call (P := Tryz.prog) (ops := ops) (Q := Q) (a := a) (w := w4) (rest := rest) i d h1 h2 h3 hc
  refine hx _ _ _ 52 _ 2 ?z757a ?z757b ?z757 ?z758
  case z757a => kernel_rfl
  case z757b => (rw [hs]; decide)
  case z757 => exact frY rfl (c_pVal rfl rfl (ev_tmp h4) (ev_tmp h50) (ev_tmp h51))
  case z758 =>
  rintro _ w5 a ⟨rfl, hRn, -, e5⟩ F0
  rw [hv] at F0
  replace hs := F0.z.trans hs
  replace hd := F0.e.trans hd
  replace h2 := (F0.n 2 (by decide)).trans h2
  replace h4 := (F0.n 4 (by decide)).trans h4
  replace h5 := (F0.n 5 (by decide)).trans h5
  replace h20 := (F0.n 20 (by decide)).trans h20
  replace h21 := (F0.n 21 (by decide)).trans h21
  replace h22 := (F0.n 22 (by decide)).trans h22
  replace h23 := (F0.n 23 (by decide)).trans h23
  replace h7 := (F0.n 7 (by decide)).trans h7
  replace h8 := (F0.n 8 (by decide)).trans h8
  replace h9 := (F0.n 9 (by decide)).trans h9
  replace h10 := (F0.n 10 (by decide)).trans h10
  replace h11 := (F0.n 11 (by decide)).trans h11
  replace h12 := (F0.n 12 (by decide)).trans h12
  replace h42 := (F0.n 42 (by decide)).trans h42
  replace h46 := (F0.n 46 (by decide)).trans h46
  clear h50
  clear h51
  have h52 := F0.s
  clear F0
  clear hx hc
  replace Q2 := Q2.exc e5 Q2.lt (by omega)
  have hS5 := hS.exc e5 hS.lt (by omega)
  have hG5 := hG4.exc e5 hG4.lt (by omega)
  have hb5 := hb.trans ((e5.mono (B := w.heap.size) (by omega)).below (by omega))
  have zl5 : lo ≤ w5.heap.size := Nat.le_trans zl4 e5.size
  refine opL 3 53 (v := .bool true) (w' := w5) (by kernel_rfl) (frZ hs) ?_ ?_
  · exact frY rfl (o_not rfl (ev_tmp h52) rfl)
  refine frN15 hs hd h2 h4 h5 h20 h21 h22 h23 h7 h8 h9 h10 h11 h12 h42 h46 ?_; clear hs hd h2 h4 h5 h20 h21 h22 h23 h7 h8 h9 h10 h11 h12 h42 h46 h52; intro a hs hd h2 h4 h5 h20 h21 h22 h23 h7 h8 h9 h10 h11 h12 h42 h46 h53
  refine wp_cond_true (ev_tmp h53) ?_
  refine wp_seq ?_
  refine wp_region (show wpOps _ _ _ [0, 1, 2] _ _ from ?_)
  refine opL 0 54 (v := .agg #[.int .i64 0, .int .i64 0, .int .i64 0, .int .i64 0, .slice none 0 0, .slice none 0 0, .slice none 0 0, .slice none 0 0]) (w' := w5) (by kernel_rfl) (frZ hs) ?_ ?_
  · exact frY rfl (k_buildR0 rfl)
  revert hs hd h2 h4 h5 h20 h21 h22 h23 h7 h8 h9 h10 h11 h12 h42 h46 h53; refine frM16 ?_; intro a hs hd h2 h4 h5 h20 h21 h22 h23 h7 h8 h9 h10 h11 h12 h42 h46 h53 h54
  refine opL_store 1 (w' := (w5.setRow w.heap.size #[.int .i64 0, .int .i64 0, .int .i64 0, .int .i64 0, .slice none 0 0, .slice none 0 0, .slice none 0 0, .slice none 0 0])) (by kernel_rfl) ?_ ?_
  · exact frY rfl (k_storeR rfl (ev_tmp h2) (ev_tmp h54) Q2 rfl rfl (by simp [Value.oneCell']))
  clear h54
  have Qe := Q2.setRow (cs := #[.int .i64 0, .int .i64 0, .int .i64 0, .int .i64 0, .slice none 0 0, .slice none 0 0, .slice none 0 0, .slice none 0 0])
  have le := (exc_setRow w5 w.heap.size #[.int .i64 0, .int .i64 0, .int .i64 0, .int .i64 0, .slice none 0 0, .slice none 0 0, .slice none 0 0, .slice none 0 0] w.heap.size).below (Nat.le_refl _)
  refine opL 2 3 (v := .int .i64 1) (w' := (w5.setRow w.heap.size #[.int .i64 0, .int .i64 0, .int .i64 0, .int .i64 0, .slice none 0 0, .slice none 0 0, .slice none 0 0, .slice none 0 0])) (by kernel_rfl) (frZ hs) ?_ ?_
  · exact frY rfl (k_assign rfl rfl)
  refine frN16 hs hd h2 h4 h5 h20 h21 h22 h23 h7 h8 h9 h10 h11 h12 h42 h46 h53 ?_; clear hs hd h2 h4 h5 h20 h21 h22 h23 h7 h8 h9 h10 h11 h12 h42 h46 h53; intro a hs hd h2 h4 h5 h20 h21 h22 h23 h7 h8 h9 h10 h11 h12 h42 h46 h53 h3
  refine wp_ret ?_
  exact hfin a _ 1 hd h2 Qe h3 (by rw [hm, estep]) (hb5.trans le)

set_option maxRecDepth 100000 in
set_option maxHeartbeats 2000000 in
theorem pa_ok (w : World) (rb gb sb lo : Nat) (s : List UInt8) (hT : Tabs w) (hl : s.length ≤ 4096) (i : Nat) (r : Rfc.Ru) (g : List Bool) (a : Act) (wx : World) (Q : Exit → Act → World → Prop) (J : LpQ w rb gb sb lo s i r g a wx) (hlt : i < (Rfc.spl s 59).length) (hf : (Lib.cut ((Rfc.spl s 59)[i]) [61]).2.2 = true) (p : Nat) (hk : Rfc.part (Lib.cut ((Rfc.spl s 59)[i]) [61]).1 = some p) (hgp : g.getD p false = false) (r' : Rfc.Ru) (hv : Rfc.setF p (Lib.cut ((Rfc.spl s 59)[i]) [61]).2.1 r = some r') :
    paRound.wp Tryz.prog (Exit.then (fun a' w' => (∃ i r g, LpQ w rb gb sb lo s i r g a' w') ∧ ((Rfc.spl s 59).length - intOf (a'.tmps.getD 22 undef)).toNat < ((Rfc.spl s 59).length - intOf (a.tmps.getD 22 undef)).toNat) Q) a wx := by
  obtain ⟨hd, hs, h2, h4, h5, h20, h21, h22, hi, hm, g8, Q2, hR, hG, hS, oo, hb⟩ := J
  have hpl : ((Rfc.spl s 59)[i]).length ≤ 100000 := Nat.le_trans (piece_le _ s 59 _ (List.getElem_mem hlt)) (by omega)
  have hcell : wx.cell? ⟨sb, i, none⟩ = some (.string ⟨(((Rfc.spl s 59)[i])).toArray⟩) := by rw [hS.cell i]; simp [hlt]
  have hspl : (Rfc.spl s 59).length ≤ 100001 := by
    rw [spl_len]
    have := Lib.countB_le ⟨#[59]⟩ (Nat.le_refl 1) _ ⟨s.toArray⟩ (Nat.le_refl _)
    rw [ba_size] at this
    omega
  have estep : Rfc.runP ((Rfc.spl s 59).drop i) r g = Rfc.runP ((Rfc.spl s 59).drop (i + 1)) r' (g.set p true) := by
    have e : Rfc.stepP ((Rfc.spl s 59)[i]) r g = .go r' (g.set p true) := by
      unfold Rfc.stepP
      rw [if_neg (by rw [hf]; decide), hk]; simp only []; rw [if_neg (by rw [hgp]; decide), hv]
    rw [List.drop_eq_getElem_cons hlt, Rfc.runP, e]
  have hp := Rfc.part_lt hk
  have hgc0 : ∀ wz : World, Blk wz gb 70 (g.map Value.bool).toArray → wz.cell? ⟨gb, p, none⟩ = some (.bool false) := fun wz hz => by
    rw [hz.cell p]
    have : p < g.length := by omega
    simp [this] at hgp ⊢
    exact hgp
  have e22 := h22
  rw [e22]
  clear e22
  unfold paRound
  conv => arg 2; whnf
  refine wp_seq ?_
  refine wp_region (show wpOps _ _ _ [0] _ _ from ?_)
  refine opL 0 23 (v := .bool true) (w' := wx) (by kernel_rfl) (frZ hs) ?_ ?_
  · exact frY rfl (o_ltI rfl (ev_tmp h22) (ev_tmp h21) (decide_eq_true (by omega)))
  refine frN6 hs hd h2 h4 h5 h20 h21 h22 ?_; clear hs hd h2 h4 h5 h20 h21 h22; intro a hs hd h2 h4 h5 h20 h21 h22 h23
  refine wp_seq ?_
  refine wp_cond_true (ev_tmp h23) ?_
  refine wp_skip ?_
  refine wp_seq ?_
  refine wp_block ?_
  refine wp_seq ?_
  refine wp_region (show wpOps _ _ _ [0, 1, 2] _ _ from ?_)
  refine opL 0 24 (v := .pointer (some ⟨sb, i, none⟩)) (w' := wx) (by kernel_rfl) (frZ hs) ?_ ?_
  · exact frY rfl (k_atS' rfl (ev_tmp h20) (ev_tmp h22) hlt)
  revert hs hd h2 h4 h5 h20 h21 h22 h23; refine frM7 ?_; intro a hs hd h2 h4 h5 h20 h21 h22 h23 h24
  refine opL 1 25 (v := .string ⟨(((Rfc.spl s 59)[i])).toArray⟩) (w' := wx) (by kernel_rfl) (frZ hs) ?_ ?_
  · exact frY rfl (k_loadStr rfl (ev_tmp h24) hcell)
  clear h24; revert hs hd h2 h4 h5 h20 h21 h22 h23; refine frM7 ?_; intro a hs hd h2 h4 h5 h20 h21 h22 h23 h25
  refine opL 2 7 (v := .string ⟨(((Rfc.spl s 59)[i])).toArray⟩) (w' := wx) (by kernel_rfl) (frZ hs) ?_ ?_
  · exact frY rfl (k_assign rfl (ev_tmp h25))
  clear h25; revert hs hd h2 h4 h5 h20 h21 h22 h23; refine frM7 ?_; intro a hs hd h2 h4 h5 h20 h21 h22 h23 h7
  refine wp_seq ?_
  refine wp_region (show wpOps _ _ _ [0, 1, 2, 3, 4, 5, 6, 7, 8] _ _ from ?_)
  refine opL 0 27 (v := .string ⟨(((Rfc.spl s 59)[i])).toArray⟩) (w' := wx) (by kernel_rfl) (frZ hs) ?_ ?_
  · exact frY rfl (k_move rfl (ev_tmp h7))
  revert hs hd h2 h4 h5 h20 h21 h22 h23 h7; refine frM8 ?_; intro a hs hd h2 h4 h5 h20 h21 h22 h23 h7 h27
  have hc := cut_any ((Rfc.spl s 59)[i]) wx (hT.below hb) hpl
  have hx := fun ops Q rest d a i h1 h2 h3 => opL_call (P := Tryz.prog) (ops := ops) (Q := Q) (a := a) (w := wx) (rest := rest) i d h1 h2 h3 hc
  refine hx _ _ _ 28 _ 1 ?z777a ?z777b ?z777 ?z778
  case z777a => kernel_rfl
  case z777b => (rw [hs]; decide)
  case z777 => exact frY rfl (c_Cut rfl rfl (ev_tmp h27) rfl)
  case z778 =>
  rintro _ w2 a ⟨rfl, l2⟩ F0
  rw [hf] at F0
  replace hs := F0.z.trans hs
  replace hd := F0.e.trans hd
  replace h2 := (F0.n 2 (by decide)).trans h2
  replace h4 := (F0.n 4 (by decide)).trans h4
  replace h5 := (F0.n 5 (by decide)).trans h5
  replace h20 := (F0.n 20 (by decide)).trans h20
  replace h21 := (F0.n 21 (by decide)).trans h21
  replace h22 := (F0.n 22 (by decide)).trans h22
  replace h23 := (F0.n 23 (by decide)).trans h23
  replace h7 := (F0.n 7 (by decide)).trans h7
  clear h27
  have h28 := F0.s
  clear F0
  clear hx hc
  replace Q2 := Q2.below l2 Q2.lt
  replace hG := hG.below l2 hG.lt
  replace hS := hS.below l2 hS.lt
  replace hR := hR.exc (Exc.of (b := gb) l2) (by omega) (by omega)
  replace hb := hb.trans (l2.mono hb.size)
  have zlw2 : lo ≤ w2.heap.size := by have := l2.size; omega
  refine opL 2 26 (v := .tuple #[.string ⟨((Lib.cut ((Rfc.spl s 59)[i]) [61]).1).toArray⟩, .string ⟨((Lib.cut ((Rfc.spl s 59)[i]) [61]).2.1).toArray⟩, .bool true]) (w' := w2) (by kernel_rfl) (frZ hs) ?_ ?_
  · exact frY rfl (k_move rfl (ev_tmp h28))
  refine frN8 hs hd h2 h4 h5 h20 h21 h22 h23 h7 ?_; clear hs hd h2 h4 h5 h20 h21 h22 h23 h7 h28; intro a hs hd h2 h4 h5 h20 h21 h22 h23 h7 h26
  refine opL 3 29 (v := .string ⟨((Lib.cut ((Rfc.spl s 59)[i]) [61]).1).toArray⟩) (w' := w2) (by kernel_rfl) (frZ hs) ?_ ?_
  · exact frY rfl (k_extract rfl (ev_tmp h26) rfl)
  revert hs hd h2 h4 h5 h20 h21 h22 h23 h7 h26; refine frM9 ?_; intro a hs hd h2 h4 h5 h20 h21 h22 h23 h7 h26 h29
  refine opL 4 30 (v := .string ⟨((Lib.cut ((Rfc.spl s 59)[i]) [61]).2.1).toArray⟩) (w' := w2) (by kernel_rfl) (frZ hs) ?_ ?_
  · exact frY rfl (k_extract rfl (ev_tmp h26) rfl)
  revert hs hd h2 h4 h5 h20 h21 h22 h23 h7 h26 h29; refine frM10 ?_; intro a hs hd h2 h4 h5 h20 h21 h22 h23 h7 h26 h29 h30
  refine opL 5 31 (v := .bool true) (w' := w2) (by kernel_rfl) (frZ hs) ?_ ?_
  · exact frY rfl (k_extract rfl (ev_tmp h26) rfl)
  clear h26; revert hs hd h2 h4 h5 h20 h21 h22 h23 h7 h29 h30; refine frM10 ?_; intro a hs hd h2 h4 h5 h20 h21 h22 h23 h7 h29 h30 h31
  refine opL 6 8 (v := .string ⟨((Lib.cut ((Rfc.spl s 59)[i]) [61]).1).toArray⟩) (w' := w2) (by kernel_rfl) (frZ hs) ?_ ?_
  · exact frY rfl (k_assign rfl (ev_tmp h29))
  clear h29; revert hs hd h2 h4 h5 h20 h21 h22 h23 h7 h30 h31; refine frM10 ?_; intro a hs hd h2 h4 h5 h20 h21 h22 h23 h7 h30 h31 h8
  refine opL 7 9 (v := .string ⟨((Lib.cut ((Rfc.spl s 59)[i]) [61]).2.1).toArray⟩) (w' := w2) (by kernel_rfl) (frZ hs) ?_ ?_
  · exact frY rfl (k_assign rfl (ev_tmp h30))
  clear h30; revert hs hd h2 h4 h5 h20 h21 h22 h23 h7 h31 h8; refine frM10 ?_; intro a hs hd h2 h4 h5 h20 h21 h22 h23 h7 h31 h8 h9
  refine opL 8 10 (v := .bool true) (w' := w2) (by kernel_rfl) (frZ hs) ?_ ?_
  · exact frY rfl (k_assign rfl (ev_tmp h31))
  clear h31; revert hs hd h2 h4 h5 h20 h21 h22 h23 h7 h8 h9; refine frM10 ?_; intro a hs hd h2 h4 h5 h20 h21 h22 h23 h7 h8 h9 h10
  refine wp_seq ?_
  refine wp_region (show wpOps _ _ _ [0, 1, 2, 3, 4, 5, 6] _ _ from ?_)
  refine opL 0 33 (v := .string ⟨((Lib.cut ((Rfc.spl s 59)[i]) [61]).1).toArray⟩) (w' := w2) (by kernel_rfl) (frZ hs) ?_ ?_
  · exact frY rfl (k_move rfl (ev_tmp h8))
  revert hs hd h2 h4 h5 h20 h21 h22 h23 h7 h8 h9 h10; refine frM11 ?_; intro a hs hd h2 h4 h5 h20 h21 h22 h23 h7 h8 h9 h10 h33
  have hc := po_any (Lib.cut ((Rfc.spl s 59)[i]) [61]).1 w2 (hT.below hb)
  have hx := fun ops Q rest d a i h1 h2 h3 => opL_call (P := Tryz.prog) (ops := ops) (Q := Q) (a := a) (w := w2) (rest := rest) i d h1 h2 h3 hc
  refine hx _ _ _ 34 _ 1 ?z795a ?z795b ?z795 ?z796
  case z795a => kernel_rfl
  case z795b => (rw [hs]; decide)
  case z795 => exact frY rfl (c_partOf rfl rfl (ev_tmp h33))
  case z796 =>
  rintro _ w3 a ⟨rfl, l3⟩ F0
  rw [hk] at F0
  replace hs := F0.z.trans hs
  replace hd := F0.e.trans hd
  replace h2 := (F0.n 2 (by decide)).trans h2
  replace h4 := (F0.n 4 (by decide)).trans h4
  replace h5 := (F0.n 5 (by decide)).trans h5
  replace h20 := (F0.n 20 (by decide)).trans h20
  replace h21 := (F0.n 21 (by decide)).trans h21
  replace h22 := (F0.n 22 (by decide)).trans h22
  replace h23 := (F0.n 23 (by decide)).trans h23
  replace h7 := (F0.n 7 (by decide)).trans h7
  replace h8 := (F0.n 8 (by decide)).trans h8
  replace h9 := (F0.n 9 (by decide)).trans h9
  replace h10 := (F0.n 10 (by decide)).trans h10
  clear h33
  have h34 := F0.s
  clear F0
  clear hx hc
  replace Q2 := Q2.below l3 Q2.lt
  replace hG := hG.below l3 hG.lt
  replace hS := hS.below l3 hS.lt
  replace hR := hR.exc (Exc.of (b := gb) l3) (by omega) (by omega)
  replace hb := hb.trans (l3.mono hb.size)
  have zlw3 : lo ≤ w3.heap.size := by have := l3.size; omega
  refine opL 2 32 (v := .tuple #[.int .i64 p, .bool true]) (w' := w3) (by kernel_rfl) (frZ hs) ?_ ?_
  · exact frY rfl (k_move rfl (ev_tmp h34))
  refine frN11 hs hd h2 h4 h5 h20 h21 h22 h23 h7 h8 h9 h10 ?_; clear hs hd h2 h4 h5 h20 h21 h22 h23 h7 h8 h9 h10 h34; intro a hs hd h2 h4 h5 h20 h21 h22 h23 h7 h8 h9 h10 h32
  refine opL 3 35 (v := .int .i64 p) (w' := w3) (by kernel_rfl) (frZ hs) ?_ ?_
  · exact frY rfl (k_extract rfl (ev_tmp h32) rfl)
  revert hs hd h2 h4 h5 h20 h21 h22 h23 h7 h8 h9 h10 h32; refine frM12 ?_; intro a hs hd h2 h4 h5 h20 h21 h22 h23 h7 h8 h9 h10 h32 h35
  refine opL 4 36 (v := .bool true) (w' := w3) (by kernel_rfl) (frZ hs) ?_ ?_
  · exact frY rfl (k_extract rfl (ev_tmp h32) rfl)
  clear h32; revert hs hd h2 h4 h5 h20 h21 h22 h23 h7 h8 h9 h10 h35; refine frM12 ?_; intro a hs hd h2 h4 h5 h20 h21 h22 h23 h7 h8 h9 h10 h35 h36
  refine opL 5 11 (v := .int .i64 p) (w' := w3) (by kernel_rfl) (frZ hs) ?_ ?_
  · exact frY rfl (k_assign rfl (ev_tmp h35))
  clear h35; revert hs hd h2 h4 h5 h20 h21 h22 h23 h7 h8 h9 h10 h36; refine frM12 ?_; intro a hs hd h2 h4 h5 h20 h21 h22 h23 h7 h8 h9 h10 h36 h11
  refine opL 6 12 (v := .bool true) (w' := w3) (by kernel_rfl) (frZ hs) ?_ ?_
  · exact frY rfl (k_assign rfl (ev_tmp h36))
  clear h36; revert hs hd h2 h4 h5 h20 h21 h22 h23 h7 h8 h9 h10 h11; refine frM12 ?_; intro a hs hd h2 h4 h5 h20 h21 h22 h23 h7 h8 h9 h10 h11 h12
  refine wp_seq ?_
  refine wp_seq ?_
  refine wp_region (show wpOps _ _ _ [0, 1, 2, 3, 4, 5] _ _ from ?_)
  refine opL 0 37 (v := .bool true) (w' := w3) (by kernel_rfl) (frZ hs) ?_ ?_
  · exact frY rfl (k_move rfl (ev_tmp h10))
  revert hs hd h2 h4 h5 h20 h21 h22 h23 h7 h8 h9 h10 h11 h12; refine frM13 ?_; intro a hs hd h2 h4 h5 h20 h21 h22 h23 h7 h8 h9 h10 h11 h12 h37
  refine opL 1 38 (v := .bool false) (w' := w3) (by kernel_rfl) (frZ hs) ?_ ?_
  · exact frY rfl (o_not rfl (ev_tmp h37) rfl)
  clear h37; revert hs hd h2 h4 h5 h20 h21 h22 h23 h7 h8 h9 h10 h11 h12; refine frM13 ?_; intro a hs hd h2 h4 h5 h20 h21 h22 h23 h7 h8 h9 h10 h11 h12 h38
  refine opL 2 39 (v := .bool false) (w' := w3) (by kernel_rfl) (frZ hs) ?_ ?_
  · exact frY rfl (k_move rfl (ev_tmp h38))
  clear h38; revert hs hd h2 h4 h5 h20 h21 h22 h23 h7 h8 h9 h10 h11 h12; refine frM13 ?_; intro a hs hd h2 h4 h5 h20 h21 h22 h23 h7 h8 h9 h10 h11 h12 h39
  refine opL 3 40 (v := .bool true) (w' := w3) (by kernel_rfl) (frZ hs) ?z813 ?z814
  case z813 => (intro o ho; obtain rfl := Option.some.inj ho; exact ⟨wanted_at (b := false) (want := false) rfl (by kernel_rfl) h39, k_move rfl (ev_tmp h12)⟩)
  case z814 =>
  refine frN14 hs hd h2 h4 h5 h20 h21 h22 h23 h7 h8 h9 h10 h11 h12 h39 ?_; clear hs hd h2 h4 h5 h20 h21 h22 h23 h7 h8 h9 h10 h11 h12 h39; intro a hs hd h2 h4 h5 h20 h21 h22 h23 h7 h8 h9 h10 h11 h12 h39 h40
  refine opL 4 41 (v := .bool false) (w' := w3) (by kernel_rfl) (frZ hs) ?z815 ?z816
  case z815 => (intro o ho; obtain rfl := Option.some.inj ho; exact ⟨wanted_at (b := false) (want := false) rfl (by kernel_rfl) h39, o_not rfl (ev_tmp h40) rfl⟩)
  case z816 =>
  refine frN14 hs hd h2 h4 h5 h20 h21 h22 h23 h7 h8 h9 h10 h11 h12 h39 ?_; clear hs hd h2 h4 h5 h20 h21 h22 h23 h7 h8 h9 h10 h11 h12 h39 h40; intro a hs hd h2 h4 h5 h20 h21 h22 h23 h7 h8 h9 h10 h11 h12 h39 h41
  refine opL 5 42 (v := .bool false) (w' := w3) (by kernel_rfl) (frZ hs) ?_ ?_
  · exact frY rfl (k_pick_no rfl (ev_tmp h39) (ev_tmp h41))
  clear h39 h41; revert hs hd h2 h4 h5 h20 h21 h22 h23 h7 h8 h9 h10 h11 h12; refine frM13 ?_; intro a hs hd h2 h4 h5 h20 h21 h22 h23 h7 h8 h9 h10 h11 h12 h42
  refine wp_cond_false (ev_tmp h42) ?_
  refine wp_skip ?_
  refine wp_seq ?_
  refine wp_seq ?_
  refine wp_region (show wpOps _ _ _ [0, 1, 2] _ _ from ?_)
  refine opL 0 44 (v := .int .i64 p) (w' := w3) (by kernel_rfl) (frZ hs) ?_ ?_
  · exact frY rfl (k_move rfl (ev_tmp h11))
  revert hs hd h2 h4 h5 h20 h21 h22 h23 h7 h8 h9 h10 h11 h12 h42; refine frM14 ?_; intro a hs hd h2 h4 h5 h20 h21 h22 h23 h7 h8 h9 h10 h11 h12 h42 h44
  refine opL 1 45 (v := .pointer (some ⟨gb, p, none⟩)) (w' := w3) (by kernel_rfl) (frZ hs) ?_ ?_
  · exact frY rfl (k_atG rfl (ev_tmp h5) (ev_tmp h44) hp)
  clear h44; revert hs hd h2 h4 h5 h20 h21 h22 h23 h7 h8 h9 h10 h11 h12 h42; refine frM14 ?_; intro a hs hd h2 h4 h5 h20 h21 h22 h23 h7 h8 h9 h10 h11 h12 h42 h45
  refine opL 2 46 (v := .bool false) (w' := w3) (by kernel_rfl) (frZ hs) ?_ ?_
  · exact frY rfl (k_loadBool rfl (ev_tmp h45) (hgc0 _ hG))
  clear h45; revert hs hd h2 h4 h5 h20 h21 h22 h23 h7 h8 h9 h10 h11 h12 h42; refine frM14 ?_; intro a hs hd h2 h4 h5 h20 h21 h22 h23 h7 h8 h9 h10 h11 h12 h42 h46
  refine wp_cond_false (ev_tmp h46) ?_
  refine wp_skip ?_
  refine wp_seq ?_
  refine wp_region (show wpOps _ _ _ [0, 1, 2] _ _ from ?_)
  refine opL 0 48 (v := .int .i64 p) (w' := w3) (by kernel_rfl) (frZ hs) ?_ ?_
  · exact frY rfl (k_move rfl (ev_tmp h11))
  revert hs hd h2 h4 h5 h20 h21 h22 h23 h7 h8 h9 h10 h11 h12 h42 h46; refine frM15 ?_; intro a hs hd h2 h4 h5 h20 h21 h22 h23 h7 h8 h9 h10 h11 h12 h42 h46 h48
  refine opL 1 49 (v := .pointer (some ⟨gb, p, none⟩)) (w' := w3) (by kernel_rfl) (frZ hs) ?_ ?_
  · exact frY rfl (k_atG rfl (ev_tmp h5) (ev_tmp h48) hp)
  clear h48; revert hs hd h2 h4 h5 h20 h21 h22 h23 h7 h8 h9 h10 h11 h12 h42 h46; refine frM15 ?_; intro a hs hd h2 h4 h5 h20 h21 h22 h23 h7 h8 h9 h10 h11 h12 h42 h46 h49
  refine opL_store 2 (w' := (w3.setCell ⟨gb, p, none⟩ (.bool true))) (by kernel_rfl) ?_ ?_
  · exact frY rfl (k_storeBool rfl (ev_tmp h49) rfl hG (by simp [g8]; omega))
  clear h49
  obtain ⟨w4, hw4⟩ : ∃ wn, wn = w3.setCell ⟨gb, p, none⟩ (.bool true) := ⟨_, rfl⟩
  rw [← hw4]
  have hG4 : Blk w4 gb 70 ((g.set p true).map Value.bool).toArray := by rw [hw4]; have := hG.set p (.bool true); rw [show ((g.map Value.bool).toArray).setIfInBounds p (.bool true) = ((g.set p true).map Value.bool).toArray by simp [List.map_set]] at this; exact this
  have e4 : ∀ B, Exc B gb w3 w4 := by rw [hw4]; exact exc_set w3 gb p _
  clear hw4
  replace Q2 := Q2.exc (e4 w3.heap.size) Q2.lt (by omega)
  replace hS := hS.exc (e4 w3.heap.size) hS.lt (by omega)
  replace hR := hR.exc (e4 w3.heap.size) (by omega) (by omega)
  replace hb := hb.trans ((e4 w.heap.size).below (by omega))
  have zl4 : lo ≤ w4.heap.size := Nat.le_trans zlw3 (e4 0).size
  refine wp_seq ?_
  refine wp_region (show wpOps _ _ _ [0, 1, 2, 3] _ _ from ?_)
  refine opL 0 50 (v := .int .i64 p) (w' := w4) (by kernel_rfl) (frZ hs) ?_ ?_
  · exact frY rfl (k_move rfl (ev_tmp h11))
  refine frN15 hs hd h2 h4 h5 h20 h21 h22 h23 h7 h8 h9 h10 h11 h12 h42 h46 ?_; clear hs hd h2 h4 h5 h20 h21 h22 h23 h7 h8 h9 h10 h11 h12 h42 h46; intro a hs hd h2 h4 h5 h20 h21 h22 h23 h7 h8 h9 h10 h11 h12 h42 h46 h50
  refine opL 1 51 (v := .string ⟨((Lib.cut ((Rfc.spl s 59)[i]) [61]).2.1).toArray⟩) (w' := w4) (by kernel_rfl) (frZ hs) ?_ ?_
  · exact frY rfl (k_move rfl (ev_tmp h9))
  revert hs hd h2 h4 h5 h20 h21 h22 h23 h7 h8 h9 h10 h11 h12 h42 h46 h50; refine frM16 ?_; intro a hs hd h2 h4 h5 h20 h21 h22 h23 h7 h8 h9 h10 h11 h12 h42 h46 h50 h51
  have hc := sv_any p hp rb lo r (Lib.cut ((Rfc.spl s 59)[i]) [61]).2.1 w4 (hT.below hb) (Nat.le_trans (cut_le _) hpl) hR ⟨by omega, zl4⟩
  have hx := fun ops Q rest d a i h1 h2 h3 => opL_call (P := Tryz.prog) (ops := ops) (Q := Q) (a := a) (w := w4) (rest := rest) i d h1 h2 h3 hc
  refine hx _ _ _ 52 _ 2 ?z835a ?z835b ?z835 ?z836
  case z835a => kernel_rfl
  case z835b => (rw [hs]; decide)
  case z835 => exact frY rfl (c_pVal rfl rfl (ev_tmp h4) (ev_tmp h50) (ev_tmp h51))
  case z836 =>
  rintro _ w5 a ⟨rfl, hRn, -, e5⟩ F0
  rw [hv] at F0
  replace hs := F0.z.trans hs
  replace hd := F0.e.trans hd
  replace h2 := (F0.n 2 (by decide)).trans h2
  replace h4 := (F0.n 4 (by decide)).trans h4
  replace h5 := (F0.n 5 (by decide)).trans h5
  replace h20 := (F0.n 20 (by decide)).trans h20
  replace h21 := (F0.n 21 (by decide)).trans h21
  replace h22 := (F0.n 22 (by decide)).trans h22
  replace h23 := (F0.n 23 (by decide)).trans h23
  replace h7 := (F0.n 7 (by decide)).trans h7
  replace h8 := (F0.n 8 (by decide)).trans h8
  replace h9 := (F0.n 9 (by decide)).trans h9
  replace h10 := (F0.n 10 (by decide)).trans h10
  replace h11 := (F0.n 11 (by decide)).trans h11
  replace h12 := (F0.n 12 (by decide)).trans h12
  replace h42 := (F0.n 42 (by decide)).trans h42
  replace h46 := (F0.n 46 (by decide)).trans h46
  clear h50
  clear h51
  have h52 := F0.s
  clear F0
  clear hx hc
  replace Q2 := Q2.exc e5 Q2.lt (by omega)
  have hS5 := hS.exc e5 hS.lt (by omega)
  have hG5 := hG4.exc e5 hG4.lt (by omega)
  have hb5 := hb.trans ((e5.mono (B := w.heap.size) (by omega)).below (by omega))
  have zl5 : lo ≤ w5.heap.size := Nat.le_trans zl4 e5.size
  refine opL 3 53 (v := .bool false) (w' := w5) (by kernel_rfl) (frZ hs) ?_ ?_
  · exact frY rfl (o_not rfl (ev_tmp h52) rfl)
  refine frN15 hs hd h2 h4 h5 h20 h21 h22 h23 h7 h8 h9 h10 h11 h12 h42 h46 ?_; clear hs hd h2 h4 h5 h20 h21 h22 h23 h7 h8 h9 h10 h11 h12 h42 h46 h52; intro a hs hd h2 h4 h5 h20 h21 h22 h23 h7 h8 h9 h10 h11 h12 h42 h46 h53
  refine wp_cond_false (ev_tmp h53) ?_
  refine wp_skip ?_
  refine wp_region (show wpOps _ _ _ [0, 1] _ _ from ?_)
  refine opL 0 55 (v := .int .i64 (i + 1 : Nat)) (w' := w5) (by kernel_rfl) (frZ hs) ?_ ?_
  · exact frY rfl (o_addI rfl (ev_tmp h22) rfl (wrap_small (n := (i : Int) + 1) (by omega) (by omega)))
  revert hs hd h2 h4 h5 h20 h21 h22 h23 h7 h8 h9 h10 h11 h12 h42 h46 h53; refine frM16 ?_; intro a hs hd h2 h4 h5 h20 h21 h22 h23 h7 h8 h9 h10 h11 h12 h42 h46 h53 h55
  refine opL 1 22 (v := .int .i64 (i + 1 : Nat)) (w' := w5) (by kernel_rfl) (frZ hs) ?_ ?_
  · exact frY rfl (k_move rfl (ev_tmp h55))
  clear h22 h55; revert hs hd h2 h4 h5 h20 h21 h23 h7 h8 h9 h10 h11 h12 h42 h46 h53; refine frM15 ?_; intro a hs hd h2 h4 h5 h20 h21 h23 h7 h8 h9 h10 h11 h12 h42 h46 h53 h22
  refine ⟨⟨i + 1, r', g.set p true, hd, hs, h2, h4, h5, h20, h21, h22, hlt, by rw [hm, estep], by simpa using g8, Q2, hRn r' hv, hG5, hS5, ⟨oo.1, oo.2.1, oo.2.2.1, oo.2.2.2.1, zl5⟩, hb5⟩, ?_⟩
  rw [h22]
  simp only [intOf]
  omega

set_option maxRecDepth 100000 in
set_option maxHeartbeats 1000000 in
theorem parse_long (s : List UInt8) (w : World) (hl : 4096 < s.length) :
    Calls Tryz.prog 11 #[.string ⟨s.toArray⟩] w fun e w' => ∃ v, e = .returned v ∧ Out w' (Rfc.parse s) v ∧ Below w.heap.size w w' := by
  refine calls_of_wp Tryz.func11 (show Tryz.f11.body = some paBody from rfl) ?_
  generalize hAA : (Act.mk (#[.string ⟨s.toArray⟩] ++ Array.replicate (Tryz.f11.ntmps - (#[.string ⟨s.toArray⟩] : Array Value).size) undef) []) = a
  have hs : a.tmps.size = 67 := by rw [← hAA]; simp [Tryz.ntmps11]
  have hd : a.defers = [] := by rw [← hAA]
  have h0 : a.tmps.getD 0 undef = .string ⟨s.toArray⟩ := by rw [← hAA]; simp
  clear hAA
  have hfin : ∀ (a' : Act) (w' : World) (n : Int), a'.defers = [] → a'.tmps.getD 2 undef = .pointer (some ⟨w.heap.size, 0, none⟩) → Blk w' w.heap.size 36 #[.int .i64 0, .int .i64 0, .int .i64 0, .int .i64 0, .slice none 0 0, .slice none 0 0, .slice none 0 0, .slice none 0 0] → a'.tmps.getD 3 undef = .int .i64 n → Rfc.parse s = .bad n → Below w.heap.size w w' → (bodyPost Tryz.prog Tryz.f11 fun e w' => ∃ v, e = .returned v ∧ Out w' (Rfc.parse s) v ∧ Below w.heap.size w w') .ret a' w' := by
    intro a' w' n k1 k2 k3 k4 k5 k6
    exact ⟨k1, _, results_parse k2 k3.rule k4, _, rfl, by rw [k5]; exact rfl, k6⟩
  have hyes : ∀ (a' : Act) (w' : World) (r : Rfc.Ru) (g : List Bool) (A1 A2 A3 A4 : Option Addr) (c1 c2 c3 c4 : Nat), a'.defers = [] → a'.tmps.getD 2 undef = .pointer (some ⟨w.heap.size, 0, none⟩) → Blk w' w.heap.size 36 #[.int .i64 r.f, .int .i64 r.iv, .int .i64 r.c, .int .i64 r.u, .slice A1 r.M.length c1, .slice A2 r.D.length c2, .slice A3 r.K.length c3, .slice A4 r.P.length c4] → a'.tmps.getD 3 undef = .int .i64 0 → Rfc.parse s = .go r g → PlainR w' A1 A2 A3 A4 r.M r.D r.K r.P → Rul.check r.f r.iv r.c r.u r.M r.D r.K r.P = 0 → Below w.heap.size w w' → (bodyPost Tryz.prog Tryz.f11 fun e w' => ∃ v, e = .returned v ∧ Out w' (Rfc.parse s) v ∧ Below w.heap.size w w') .ret a' w' := by
    intro a' w' r g A1 A2 A3 A4 c1 c2 c3 c4 k1 k2 k3 k4 k5 k6 k7 k8
    exact ⟨k1, _, results_parse k2 k3.rule k4, _, rfl, by rw [k5]; exact ⟨A1, A2, A3, A4, c1, c2, c3, c4, rfl, k6, k7⟩, k8⟩
  generalize (bodyPost Tryz.prog Tryz.f11 fun e w' => ∃ v, e = .returned v ∧ Out w' (Rfc.parse s) v ∧ Below w.heap.size w w') = Q at hfin hyes
  unfold paBody
  conv => arg 2; whnf
  refine wp_seq ?_
  refine wp_region (show wpOps _ _ _ [0, 1] _ _ from ?_)
  refine opL 0 2 (v := .pointer (some ⟨w.heap.size, 0, none⟩)) (w' := (w.alloc (.cells #[.int .i64 0, .int .i64 0, .int .i64 0, .int .i64 0, .slice none 0 0, .slice none 0 0, .slice none 0 0, .slice none 0 0] 36))) (by kernel_rfl) (frZ hs) ?_ ?_
  · exact frY rfl (k_allocR rfl)
  refine frN1 hs hd h0 ?_; clear hs hd h0; intro a hs hd h0 h2
  obtain ⟨w1, hw1⟩ : ∃ wn, wn = w.alloc (.cells #[.int .i64 0, .int .i64 0, .int .i64 0, .int .i64 0, .slice none 0 0, .slice none 0 0, .slice none 0 0, .slice none 0 0] 36) := ⟨_, rfl⟩
  rw [← hw1]
  have q1 : Blk w1 w.heap.size 36 #[.int .i64 0, .int .i64 0, .int .i64 0, .int .i64 0, .slice none 0 0, .slice none 0 0, .slice none 0 0, .slice none 0 0] := by rw [hw1]; exact Blk.alloc _ _ _
  have l1 : Below w.heap.size w w1 := by rw [hw1]; exact (Below.refl _ _).alloc (Nat.le_refl _) _
  clear hw1
  refine opL 1 3 (v := .int .i64 0) (w' := w1) (by kernel_rfl) (frZ hs) ?_ ?_
  · exact frY rfl (k_assign rfl rfl)
  refine frN2 hs hd h0 h2 ?_; clear hs hd h0 h2; intro a hs hd h0 h2 h3
  refine wp_seq ?_
  refine wp_seq ?_
  refine wp_region (show wpOps _ _ _ [0, 1, 2] _ _ from ?_)
  refine opL 0 14 (v := .string ⟨s.toArray⟩) (w' := w1) (by kernel_rfl) (frZ hs) ?_ ?_
  · exact frY rfl (k_move rfl (ev_tmp h0))
  revert hs hd h0 h2 h3; refine frM3 ?_; intro a hs hd h0 h2 h3 h14
  refine opL 1 15 (v := .int .i64 (⟨s.toArray⟩ : ByteArray).size) (w' := w1) (by kernel_rfl) (frZ hs) ?_ ?_
  · exact frY rfl (k_lenT rfl (ev_tmp h14))
  clear h14; revert hs hd h0 h2 h3; refine frM3 ?_; intro a hs hd h0 h2 h3 h15
  refine opL 2 16 (v := .bool true) (w' := w1) (by kernel_rfl) (frZ hs) ?_ ?_
  · exact frY rfl (o_gtI rfl (ev_tmp h15) rfl (decide_eq_true (by rw [ba_size]; omega)))
  clear h15; revert hs hd h0 h2 h3; refine frM3 ?_; intro a hs hd h0 h2 h3 h16
  refine wp_cond_true (ev_tmp h16) ?_
  refine wp_seq ?_
  refine wp_region (show wpOps _ _ _ [0, 1, 2] _ _ from ?_)
  refine opL 0 17 (v := .agg #[.int .i64 0, .int .i64 0, .int .i64 0, .int .i64 0, .slice none 0 0, .slice none 0 0, .slice none 0 0, .slice none 0 0]) (w' := w1) (by kernel_rfl) (frZ hs) ?_ ?_
  · exact frY rfl (k_buildR0 rfl)
  revert hs hd h0 h2 h3 h16; refine frM4 ?_; intro a hs hd h0 h2 h3 h16 h17
  refine opL_store 1 (w' := (w1.setRow w.heap.size #[.int .i64 0, .int .i64 0, .int .i64 0, .int .i64 0, .slice none 0 0, .slice none 0 0, .slice none 0 0, .slice none 0 0])) (by kernel_rfl) ?_ ?_
  · exact frY rfl (k_storeR rfl (ev_tmp h2) (ev_tmp h17) q1 rfl rfl (by simp [Value.oneCell']))
  clear h17
  have Qe := q1.setRow (cs := #[.int .i64 0, .int .i64 0, .int .i64 0, .int .i64 0, .slice none 0 0, .slice none 0 0, .slice none 0 0, .slice none 0 0])
  have le := (exc_setRow w1 w.heap.size #[.int .i64 0, .int .i64 0, .int .i64 0, .int .i64 0, .slice none 0 0, .slice none 0 0, .slice none 0 0, .slice none 0 0] w.heap.size).below (Nat.le_refl _)
  refine opL 2 3 (v := .int .i64 2) (w' := (w1.setRow w.heap.size #[.int .i64 0, .int .i64 0, .int .i64 0, .int .i64 0, .slice none 0 0, .slice none 0 0, .slice none 0 0, .slice none 0 0])) (by kernel_rfl) (frZ hs) ?_ ?_
  · exact frY rfl (k_assign rfl rfl)
  refine frN3 hs hd h0 h2 h16 ?_; clear hs hd h0 h2 h16 h3; intro a hs hd h0 h2 h16 h3
  refine wp_ret ?_
  exact hfin a _ 2 hd h2 Qe h3 (by unfold Rfc.parse; rw [if_pos hl]) (l1.trans le)

set_option maxRecDepth 100000 in
set_option maxHeartbeats 2000000 in
theorem parse_some (s : List UInt8) (w : World) (hT : Tabs w) (hl : s.length ≤ 4096) :
    Calls Tryz.prog 11 #[.string ⟨s.toArray⟩] w fun e w' => ∃ v, e = .returned v ∧ Out w' (Rfc.parse s) v ∧ Below w.heap.size w w' := by
  refine calls_of_wp Tryz.func11 (show Tryz.f11.body = some paBody from rfl) ?_
  generalize hAA : (Act.mk (#[.string ⟨s.toArray⟩] ++ Array.replicate (Tryz.f11.ntmps - (#[.string ⟨s.toArray⟩] : Array Value).size) undef) []) = a
  have hs : a.tmps.size = 67 := by rw [← hAA]; simp [Tryz.ntmps11]
  have hd : a.defers = [] := by rw [← hAA]
  have h0 : a.tmps.getD 0 undef = .string ⟨s.toArray⟩ := by rw [← hAA]; simp
  clear hAA
  have hfin : ∀ (a' : Act) (w' : World) (n : Int), a'.defers = [] → a'.tmps.getD 2 undef = .pointer (some ⟨w.heap.size, 0, none⟩) → Blk w' w.heap.size 36 #[.int .i64 0, .int .i64 0, .int .i64 0, .int .i64 0, .slice none 0 0, .slice none 0 0, .slice none 0 0, .slice none 0 0] → a'.tmps.getD 3 undef = .int .i64 n → Rfc.parse s = .bad n → Below w.heap.size w w' → (bodyPost Tryz.prog Tryz.f11 fun e w' => ∃ v, e = .returned v ∧ Out w' (Rfc.parse s) v ∧ Below w.heap.size w w') .ret a' w' := by
    intro a' w' n k1 k2 k3 k4 k5 k6
    exact ⟨k1, _, results_parse k2 k3.rule k4, _, rfl, by rw [k5]; exact rfl, k6⟩
  have hyes : ∀ (a' : Act) (w' : World) (r : Rfc.Ru) (g : List Bool) (A1 A2 A3 A4 : Option Addr) (c1 c2 c3 c4 : Nat), a'.defers = [] → a'.tmps.getD 2 undef = .pointer (some ⟨w.heap.size, 0, none⟩) → Blk w' w.heap.size 36 #[.int .i64 r.f, .int .i64 r.iv, .int .i64 r.c, .int .i64 r.u, .slice A1 r.M.length c1, .slice A2 r.D.length c2, .slice A3 r.K.length c3, .slice A4 r.P.length c4] → a'.tmps.getD 3 undef = .int .i64 0 → Rfc.parse s = .go r g → PlainR w' A1 A2 A3 A4 r.M r.D r.K r.P → Rul.check r.f r.iv r.c r.u r.M r.D r.K r.P = 0 → Below w.heap.size w w' → (bodyPost Tryz.prog Tryz.f11 fun e w' => ∃ v, e = .returned v ∧ Out w' (Rfc.parse s) v ∧ Below w.heap.size w w') .ret a' w' := by
    intro a' w' r g A1 A2 A3 A4 c1 c2 c3 c4 k1 k2 k3 k4 k5 k6 k7 k8
    exact ⟨k1, _, results_parse k2 k3.rule k4, _, rfl, by rw [k5]; exact ⟨A1, A2, A3, A4, c1, c2, c3, c4, rfl, k6, k7⟩, k8⟩
  generalize (bodyPost Tryz.prog Tryz.f11 fun e w' => ∃ v, e = .returned v ∧ Out w' (Rfc.parse s) v ∧ Below w.heap.size w w') = Q at hfin hyes
  unfold paBody
  conv => arg 2; whnf
  refine wp_seq ?_
  refine wp_region (show wpOps _ _ _ [0, 1] _ _ from ?_)
  refine opL 0 2 (v := .pointer (some ⟨w.heap.size, 0, none⟩)) (w' := (w.alloc (.cells #[.int .i64 0, .int .i64 0, .int .i64 0, .int .i64 0, .slice none 0 0, .slice none 0 0, .slice none 0 0, .slice none 0 0] 36))) (by kernel_rfl) (frZ hs) ?_ ?_
  · exact frY rfl (k_allocR rfl)
  refine frN1 hs hd h0 ?_; clear hs hd h0; intro a hs hd h0 h2
  obtain ⟨w1, hw1⟩ : ∃ wn, wn = w.alloc (.cells #[.int .i64 0, .int .i64 0, .int .i64 0, .int .i64 0, .slice none 0 0, .slice none 0 0, .slice none 0 0, .slice none 0 0] 36) := ⟨_, rfl⟩
  rw [← hw1]
  have q1 : Blk w1 w.heap.size 36 #[.int .i64 0, .int .i64 0, .int .i64 0, .int .i64 0, .slice none 0 0, .slice none 0 0, .slice none 0 0, .slice none 0 0] := by rw [hw1]; exact Blk.alloc _ _ _
  have l1 : Below w.heap.size w w1 := by rw [hw1]; exact (Below.refl _ _).alloc (Nat.le_refl _) _
  clear hw1
  refine opL 1 3 (v := .int .i64 0) (w' := w1) (by kernel_rfl) (frZ hs) ?_ ?_
  · exact frY rfl (k_assign rfl rfl)
  refine frN2 hs hd h0 h2 ?_; clear hs hd h0 h2; intro a hs hd h0 h2 h3
  refine wp_seq ?_
  refine wp_seq ?_
  refine wp_region (show wpOps _ _ _ [0, 1, 2] _ _ from ?_)
  refine opL 0 14 (v := .string ⟨s.toArray⟩) (w' := w1) (by kernel_rfl) (frZ hs) ?_ ?_
  · exact frY rfl (k_move rfl (ev_tmp h0))
  revert hs hd h0 h2 h3; refine frM3 ?_; intro a hs hd h0 h2 h3 h14
  refine opL 1 15 (v := .int .i64 (⟨s.toArray⟩ : ByteArray).size) (w' := w1) (by kernel_rfl) (frZ hs) ?_ ?_
  · exact frY rfl (k_lenT rfl (ev_tmp h14))
  clear h14; revert hs hd h0 h2 h3; refine frM3 ?_; intro a hs hd h0 h2 h3 h15
  refine opL 2 16 (v := .bool false) (w' := w1) (by kernel_rfl) (frZ hs) ?_ ?_
  · exact frY rfl (o_gtI rfl (ev_tmp h15) rfl (decide_eq_false (by rw [ba_size]; omega)))
  clear h15; revert hs hd h0 h2 h3; refine frM3 ?_; intro a hs hd h0 h2 h3 h16
  refine wp_cond_false (ev_tmp h16) ?_
  refine wp_skip ?_
  refine wp_seq ?_
  refine wp_region (show wpOps _ _ _ [0, 1, 2] _ _ from ?_)
  refine opL 0 18 (v := .agg #[.int .i64 0, .int .i64 1, .int .i64 0, .int .i64 0, .slice none 0 0, .slice none 0 0, .slice none 0 0, .slice none 0 0]) (w' := w1) (by kernel_rfl) (frZ hs) ?_ ?_
  · exact frY rfl (k_buildR1 rfl rfl)
  revert hs hd h0 h2 h3 h16; refine frM4 ?_; intro a hs hd h0 h2 h3 h16 h18
  refine opL 1 4 (v := .pointer (some ⟨w1.heap.size, 0, none⟩)) (w' := (w1.alloc (.cells #[.int .i64 0, .int .i64 0, .int .i64 0, .int .i64 0, .slice none 0 0, .slice none 0 0, .slice none 0 0, .slice none 0 0] 36))) (by kernel_rfl) (frZ hs) ?_ ?_
  · exact frY rfl (k_allocR rfl)
  revert hs hd h0 h2 h3 h16 h18; refine frM5 ?_; intro a hs hd h0 h2 h3 h16 h18 h4
  obtain ⟨w2, hw2⟩ : ∃ wn, wn = w1.alloc (.cells #[.int .i64 0, .int .i64 0, .int .i64 0, .int .i64 0, .slice none 0 0, .slice none 0 0, .slice none 0 0, .slice none 0 0] 36) := ⟨_, rfl⟩
  rw [← hw2]
  have q2 : Blk w2 w1.heap.size 36 #[.int .i64 0, .int .i64 0, .int .i64 0, .int .i64 0, .slice none 0 0, .slice none 0 0, .slice none 0 0, .slice none 0 0] := by rw [hw2]; exact Blk.alloc _ _ _
  have l2 : Below w1.heap.size w1 w2 := by rw [hw2]; exact (Below.refl _ _).alloc (Nat.le_refl _) _
  clear hw2
  have ha := q1.lt
  replace q1 := q1.below l2 q1.lt
  replace l1 := l1.trans (l2.mono l1.size)
  clear l2
  refine opL_store 2 (w' := (w2.setRow w1.heap.size #[.int .i64 0, .int .i64 1, .int .i64 0, .int .i64 0, .slice none 0 0, .slice none 0 0, .slice none 0 0, .slice none 0 0])) (by kernel_rfl) ?_ ?_
  · exact frY rfl (k_storeR rfl (ev_tmp h4) (ev_tmp h18) q2 rfl rfl (by simp [Value.oneCell']))
  clear h18
  obtain ⟨w3, hw3⟩ : ∃ wn, wn = w2.setRow w1.heap.size #[.int .i64 0, .int .i64 1, .int .i64 0, .int .i64 0, .slice none 0 0, .slice none 0 0, .slice none 0 0, .slice none 0 0] := ⟨_, rfl⟩
  rw [← hw3]
  have q3 : Blk w3 w1.heap.size 36 #[.int .i64 0, .int .i64 1, .int .i64 0, .int .i64 0, .slice none 0 0, .slice none 0 0, .slice none 0 0, .slice none 0 0] := by rw [hw3]; exact q2.setRow
  have e3 : ∀ B, Exc B w1.heap.size w2 w3 := by rw [hw3]; exact exc_setRow w2 w1.heap.size #[.int .i64 0, .int .i64 1, .int .i64 0, .int .i64 0, .slice none 0 0, .slice none 0 0, .slice none 0 0, .slice none 0 0]
  clear hw3 q2
  replace q1 := q1.exc (e3 w2.heap.size) q1.lt (by omega)
  replace l1 := l1.trans ((e3 w.heap.size).below (by omega))
  refine wp_seq ?_
  refine wp_region (show wpOps _ _ _ [0] _ _ from ?_)
  refine opL 0 5 (v := .pointer (some ⟨w3.heap.size, 0, none⟩)) (w' := (w3.alloc (.cells #[.bool false, .bool false, .bool false, .bool false, .bool false, .bool false, .bool false, .bool false] 70))) (by kernel_rfl) (frZ hs) ?_ ?_
  · exact frY rfl (k_allocG rfl)
  refine frN5 hs hd h0 h2 h3 h16 h4 ?_; clear hs hd h0 h2 h3 h16 h4; intro a hs hd h0 h2 h3 h16 h4 h5
  obtain ⟨w4, hw4⟩ : ∃ wn, wn = w3.alloc (.cells #[.bool false, .bool false, .bool false, .bool false, .bool false, .bool false, .bool false, .bool false] 70) := ⟨_, rfl⟩
  rw [← hw4]
  have q4 : Blk w4 w3.heap.size 70 #[.bool false, .bool false, .bool false, .bool false, .bool false, .bool false, .bool false, .bool false] := by rw [hw4]; exact Blk.alloc _ _ _
  have l4 : Below w3.heap.size w3 w4 := by rw [hw4]; exact (Below.refl _ _).alloc (Nat.le_refl _) _
  clear hw4
  have hb3 := q3.lt
  replace q1 := q1.below l4 q1.lt
  replace q3 := q3.below l4 q3.lt
  replace l1 := l1.trans (l4.mono l1.size)
  clear l4
  refine wp_seq ?_
  refine wp_seq ?_
  refine wp_region (show wpOps _ _ _ [0, 1, 2, 3] _ _ from ?_)
  refine opL 0 19 (v := .string ⟨s.toArray⟩) (w' := w4) (by kernel_rfl) (frZ hs) ?_ ?_
  · exact frY rfl (k_move rfl (ev_tmp h0))
  refine frN6 hs hd h0 h2 h3 h16 h4 h5 ?_; clear hs hd h0 h2 h3 h16 h4 h5; intro a hs hd h0 h2 h3 h16 h4 h5 h19
  have hc := split_any s 59 w4 (hT.below l1) (by omega)
  have hx := fun ops Q rest d a i h1 h2 h3 => opL_call (P := Tryz.prog) (ops := ops) (Q := Q) (a := a) (w := w4) (rest := rest) i d h1 h2 h3 hc
  refine hx _ _ _ 20 _ 1 ?z879a ?z879b ?z879 ?z880
  case z879a => kernel_rfl
  case z879b => (rw [hs]; decide)
  case z879 => exact frY rfl (c_Split rfl rfl (ev_tmp h19) rfl)
  case z880 =>
  rintro _ w5 a ⟨⟨rfl, q5⟩, l5⟩ F0
  replace hs := F0.z.trans hs
  replace hd := F0.e.trans hd
  replace h0 := (F0.n 0 (by decide)).trans h0
  replace h2 := (F0.n 2 (by decide)).trans h2
  replace h3 := (F0.n 3 (by decide)).trans h3
  replace h16 := (F0.n 16 (by decide)).trans h16
  replace h4 := (F0.n 4 (by decide)).trans h4
  replace h5 := (F0.n 5 (by decide)).trans h5
  clear h19
  have h20 := F0.s
  clear F0
  clear hx hc
  have hc4 := q4.lt
  have hc5 := q5.lt
  replace q1 := q1.below l5 q1.lt
  replace q3 := q3.below l5 q3.lt
  replace q4 := q4.below l5 q4.lt
  replace l1 := l1.trans (l5.mono l1.size)
  refine opL 2 21 (v := .int .i64 (Rfc.spl s 59).length) (w' := w5) (by kernel_rfl) (frZ hs) ?_ ?_
  · exact frY rfl (k_lenStr rfl (ev_tmp h20))
  refine frN7 hs hd h0 h2 h3 h16 h4 h5 h20 ?_; clear hs hd h0 h2 h3 h16 h4 h5 h20; intro a hs hd h0 h2 h3 h16 h4 h5 h20 h21
  refine opL 3 22 (v := .int .i64 0) (w' := w5) (by kernel_rfl) (frZ hs) ?_ ?_
  · exact frY rfl (k_move rfl rfl)
  revert hs hd h0 h2 h3 h16 h4 h5 h20 h21; refine frM8 ?_; intro a hs hd h0 h2 h3 h16 h4 h5 h20 h21 h22
  refine wp_block ?_
  refine wp_loop (fun a wx => ∃ i r g, LpQ w w1.heap.size w3.heap.size w4.heap.size w5.heap.size s i r g a wx) (fun a _ => ((Rfc.spl s 59).length - intOf (a.tmps.getD 22 undef)).toNat) ⟨0, (⟨0, 1, 0, 0, [], [], [], []⟩ : Rfc.Ru), (List.replicate 8 false), ⟨hd, hs, h2, h4, h5, h20, h21, h22, Nat.zero_le _, rfl, rfl, q1, ⟨none, none, none, none, 0, 0, 0, 0, q3, InI.nil _ _, InI.nil _ _, InN.nil _ _, InI.nil _ _⟩, q4, q5, ⟨by omega, by omega, by omega, by omega, Nat.le_refl _⟩, l1⟩⟩ ?_
  clear hs hd q1 q3 q4 q5 l5 l1 h0 h2 h3 h4 h5 h16 h20 h21 h22 a
  rintro a wx ⟨i, r, g, J⟩
  by_cases hlt : i < (Rfc.spl s 59).length
  · cases hf : (Lib.cut ((Rfc.spl s 59)[i]) [61]).2.2
    · exact pa_nofound w _ _ _ _ s hT hl i r g a wx _ J hlt hf (fun a' w' n k1 k2 k3 k4 k5 k6 => hfin a' w' n k1 k2 k3 k4 (by unfold Rfc.parse; rw [if_neg (by omega), k5]; rfl) k6)
    · cases hk : Rfc.part (Lib.cut ((Rfc.spl s 59)[i]) [61]).1 with
      | none => exact pa_unknown w _ _ _ _ s hT hl i r g a wx _ J hlt hf hk (fun a' w' n k1 k2 k3 k4 k5 k6 => hfin a' w' n k1 k2 k3 k4 (by unfold Rfc.parse; rw [if_neg (by omega), k5]; rfl) k6)
      | some p =>
        cases hgp : g.getD p false
        · cases hv : Rfc.setF p (Lib.cut ((Rfc.spl s 59)[i]) [61]).2.1 r with
          | none => exact pa_badval w _ _ _ _ s hT hl i r g a wx _ J hlt hf p hk hgp hv (fun a' w' n k1 k2 k3 k4 k5 k6 => hfin a' w' n k1 k2 k3 k4 (by unfold Rfc.parse; rw [if_neg (by omega), k5]; rfl) k6)
          | some r' => exact pa_ok w _ _ _ _ s hT hl i r g a wx _ J hlt hf p hk hgp r' hv
        · exact pa_twice w _ _ _ _ s hT hl i r g a wx _ J hlt hf p hk hgp (fun a' w' n k1 k2 k3 k4 k5 k6 => hfin a' w' n k1 k2 k3 k4 (by unfold Rfc.parse; rw [if_neg (by omega), k5]; rfl) k6)
  obtain ⟨hd, hs, h2, h4, h5, h20, h21, h22, hi, hm, g8, Q2, hR, hG, hS, oo, hb⟩ := J
  obtain rfl : i = (Rfc.spl s 59).length := by omega
  rw [List.drop_length] at hm
  clear h20 hS
  refine wp_seq ?_
  refine wp_region (show wpOps _ _ _ [0] _ _ from ?_)
  refine opL 0 23 (v := .bool false) (w' := wx) (by kernel_rfl) (frZ hs) ?_ ?_
  · exact frY rfl (o_ltI rfl (ev_tmp h22) (ev_tmp h21) (decide_eq_false (by omega)))
  refine frN5 hs hd h2 h4 h5 h21 h22 ?_; clear hs hd h2 h4 h5 h21 h22; intro a hs hd h2 h4 h5 h21 h22 h23
  refine wp_seq ?_
  refine wp_cond_false (ev_tmp h23) ?_
  refine wp_exit ?_
  change Code.wp _ _ _ _ _
  have hpe : Rfc.parse s = Rfc.endP (.go r g) := by unfold Rfc.parse; rw [if_neg (by omega), hm]; rfl
  obtain ⟨A1, A2, A3, A4, c1, c2, c3, c4, hB, i1, i2, i3, i4⟩ := hR
  have hPl : PlainR wx A1 A2 A3 A4 r.M r.D r.K r.P := ⟨i1.plain, i2.plain, i3.plain, i4.plain, i1.1, i2.1, i3.1, i4.1⟩
  have hg0 : wx.cell? ⟨w3.heap.size, 0, none⟩ = some (.bool (g.getD 0 false)) := by rw [hG.cell 0]; simp [g8]
  cases hgf : g.getD 0 false
  ·
    refine wp_seq ?_
    refine wp_seq ?_
    refine wp_region (show wpOps _ _ _ [0, 1, 2] _ _ from ?_)
    refine opL 0 56 (v := .pointer (some ⟨w3.heap.size, 0, none⟩)) (w' := wx) (by kernel_rfl) (frZ hs) ?_ ?_
    · exact frY rfl (k_atG (i := 0) rfl (ev_tmp h5) rfl (by omega))
    refine frN6 hs hd h2 h4 h5 h21 h22 h23 ?_; clear hs hd h2 h4 h5 h21 h22 h23; intro a hs hd h2 h4 h5 h21 h22 h23 h56
    refine opL 1 57 (v := .bool false) (w' := wx) (by kernel_rfl) (frZ hs) ?_ ?_
    · exact frY rfl (k_loadBool rfl (ev_tmp h56) (by rw [hg0, hgf]))
    clear h56; revert hs hd h2 h4 h5 h21 h22 h23; refine frM6 ?_; intro a hs hd h2 h4 h5 h21 h22 h23 h57
    refine opL 2 58 (v := .bool true) (w' := wx) (by kernel_rfl) (frZ hs) ?_ ?_
    · exact frY rfl (o_not rfl (ev_tmp h57) rfl)
    clear h57; revert hs hd h2 h4 h5 h21 h22 h23; refine frM6 ?_; intro a hs hd h2 h4 h5 h21 h22 h23 h58
    refine wp_cond_true (ev_tmp h58) ?_
    refine wp_seq ?_
    refine wp_region (show wpOps _ _ _ [0, 1, 2] _ _ from ?_)
    refine opL 0 59 (v := .agg #[.int .i64 0, .int .i64 0, .int .i64 0, .int .i64 0, .slice none 0 0, .slice none 0 0, .slice none 0 0, .slice none 0 0]) (w' := wx) (by kernel_rfl) (frZ hs) ?_ ?_
    · exact frY rfl (k_buildR0 rfl)
    revert hs hd h2 h4 h5 h21 h22 h23 h58; refine frM7 ?_; intro a hs hd h2 h4 h5 h21 h22 h23 h58 h59
    refine opL_store 1 (w' := (wx.setRow w.heap.size #[.int .i64 0, .int .i64 0, .int .i64 0, .int .i64 0, .slice none 0 0, .slice none 0 0, .slice none 0 0, .slice none 0 0])) (by kernel_rfl) ?_ ?_
    · exact frY rfl (k_storeR rfl (ev_tmp h2) (ev_tmp h59) Q2 rfl rfl (by simp [Value.oneCell']))
    clear h59
    have Qe := Q2.setRow (cs := #[.int .i64 0, .int .i64 0, .int .i64 0, .int .i64 0, .slice none 0 0, .slice none 0 0, .slice none 0 0, .slice none 0 0])
    have le := (exc_setRow wx w.heap.size #[.int .i64 0, .int .i64 0, .int .i64 0, .int .i64 0, .slice none 0 0, .slice none 0 0, .slice none 0 0, .slice none 0 0] w.heap.size).below (Nat.le_refl _)
    refine opL 2 3 (v := .int .i64 1) (w' := (wx.setRow w.heap.size #[.int .i64 0, .int .i64 0, .int .i64 0, .int .i64 0, .slice none 0 0, .slice none 0 0, .slice none 0 0, .slice none 0 0])) (by kernel_rfl) (frZ hs) ?_ ?_
    · exact frY rfl (k_assign rfl rfl)
    refine frN7 hs hd h2 h4 h5 h21 h22 h23 h58 ?_; clear hs hd h2 h4 h5 h21 h22 h23 h58; intro a hs hd h2 h4 h5 h21 h22 h23 h58 h3
    refine wp_ret ?_
    exact hfin a _ 1 hd h2 Qe h3 (by rw [hpe]; unfold Rfc.endP; dsimp only; rw [if_pos hgf]) (hb.trans le)
  by_cases hck : Rul.check r.f r.iv r.c r.u r.M r.D r.K r.P = 0
  ·
    refine wp_seq ?_
    refine wp_seq ?_
    refine wp_region (show wpOps _ _ _ [0, 1, 2] _ _ from ?_)
    refine opL 0 56 (v := .pointer (some ⟨w3.heap.size, 0, none⟩)) (w' := wx) (by kernel_rfl) (frZ hs) ?_ ?_
    · exact frY rfl (k_atG (i := 0) rfl (ev_tmp h5) rfl (by omega))
    refine frN6 hs hd h2 h4 h5 h21 h22 h23 ?_; clear hs hd h2 h4 h5 h21 h22 h23; intro a hs hd h2 h4 h5 h21 h22 h23 h56
    refine opL 1 57 (v := .bool true) (w' := wx) (by kernel_rfl) (frZ hs) ?_ ?_
    · exact frY rfl (k_loadBool rfl (ev_tmp h56) (by rw [hg0, hgf]))
    clear h56; revert hs hd h2 h4 h5 h21 h22 h23; refine frM6 ?_; intro a hs hd h2 h4 h5 h21 h22 h23 h57
    refine opL 2 58 (v := .bool false) (w' := wx) (by kernel_rfl) (frZ hs) ?_ ?_
    · exact frY rfl (o_not rfl (ev_tmp h57) rfl)
    clear h57; revert hs hd h2 h4 h5 h21 h22 h23; refine frM6 ?_; intro a hs hd h2 h4 h5 h21 h22 h23 h58
    refine wp_cond_false (ev_tmp h58) ?_
    refine wp_skip ?_
    refine wp_seq ?_
    refine wp_seq ?_
    refine wp_region (show wpOps _ _ _ [0, 1, 2] _ _ from ?_)
    refine opL 0 60 (v := .agg #[.int .i64 r.f, .int .i64 r.iv, .int .i64 r.c, .int .i64 r.u, .slice A1 r.M.length c1, .slice A2 r.D.length c2, .slice A3 r.K.length c3, .slice A4 r.P.length c4]) (w' := wx) (by kernel_rfl) (frZ hs) ?_ ?_
    · exact frY rfl (k_loadR rfl (ev_tmp h4) hB.rule)
    revert hs hd h2 h4 h5 h21 h22 h23 h58; refine frM7 ?_; intro a hs hd h2 h4 h5 h21 h22 h23 h58 h60
    have hc := check_any'' r.f r.iv r.c r.u A1 A2 A3 A4 c1 c2 c3 c4 r.M r.D r.K r.P wx hPl.lists
    have hx := fun ops Q rest d a i h1 h2 h3 => opL_call (P := Tryz.prog) (ops := ops) (Q := Q) (a := a) (w := wx) (rest := rest) i d h1 h2 h3 hc
    refine hx _ _ _ 61 _ 1 ?z907a ?z907b ?z907 ?z908
    case z907a => kernel_rfl
    case z907b => (rw [hs]; decide)
    case z907 => exact frY rfl (k_callCheck rfl rfl (ev_tmp h60))
    case z908 =>
    rintro _ w7 a ⟨rfl, l7⟩ F0
    rw [hck] at F0
    replace hs := F0.z.trans hs
    replace hd := F0.e.trans hd
    replace h2 := (F0.n 2 (by decide)).trans h2
    replace h4 := (F0.n 4 (by decide)).trans h4
    replace h5 := (F0.n 5 (by decide)).trans h5
    replace h21 := (F0.n 21 (by decide)).trans h21
    replace h22 := (F0.n 22 (by decide)).trans h22
    replace h23 := (F0.n 23 (by decide)).trans h23
    replace h58 := (F0.n 58 (by decide)).trans h58
    clear h60
    have h61 := F0.s
    clear F0
    clear hx hc
    have Q7 := Q2.below l7 Q2.lt
    have B7 := hB.below l7 hB.lt
    have P7 := hPl.below l7
    have b7 := hb.trans (l7.mono hb.size)
    refine opL 2 13 (v := .int .i64 0) (w' := w7) (by kernel_rfl) (frZ hs) ?_ ?_
    · exact frY rfl (k_assign rfl (ev_tmp h61))
    refine frN7 hs hd h2 h4 h5 h21 h22 h23 h58 ?_; clear hs hd h2 h4 h5 h21 h22 h23 h58 h61; intro a hs hd h2 h4 h5 h21 h22 h23 h58 h13
    refine wp_seq ?_
    refine wp_region (show wpOps _ _ _ [0, 1] _ _ from ?_)
    refine opL 0 62 (v := .int .i64 0) (w' := w7) (by kernel_rfl) (frZ hs) ?_ ?_
    · exact frY rfl (k_move rfl (ev_tmp h13))
    revert hs hd h2 h4 h5 h21 h22 h23 h58 h13; refine frM8 ?_; intro a hs hd h2 h4 h5 h21 h22 h23 h58 h13 h62
    refine opL 1 63 (v := .bool false) (w' := w7) (by kernel_rfl) (frZ hs) ?_ ?_
    · exact frY rfl (o_neE rfl (ev_tmp h62) rfl rfl)
    clear h62; revert hs hd h2 h4 h5 h21 h22 h23 h58 h13; refine frM8 ?_; intro a hs hd h2 h4 h5 h21 h22 h23 h58 h13 h63
    refine wp_cond_false (ev_tmp h63) ?_
    refine wp_skip ?_
    refine wp_seq ?_
    refine wp_region (show wpOps _ _ _ [0, 1, 2] _ _ from ?_)
    refine opL 0 66 (v := .agg #[.int .i64 r.f, .int .i64 r.iv, .int .i64 r.c, .int .i64 r.u, .slice A1 r.M.length c1, .slice A2 r.D.length c2, .slice A3 r.K.length c3, .slice A4 r.P.length c4]) (w' := w7) (by kernel_rfl) (frZ hs) ?_ ?_
    · exact frY rfl (k_loadR rfl (ev_tmp h4) B7.rule)
    revert hs hd h2 h4 h5 h21 h22 h23 h58 h13 h63; refine frM9 ?_; intro a hs hd h2 h4 h5 h21 h22 h23 h58 h13 h63 h66
    refine opL_store 1 (w' := (w7.setRow w.heap.size #[.int .i64 r.f, .int .i64 r.iv, .int .i64 r.c, .int .i64 r.u, .slice A1 r.M.length c1, .slice A2 r.D.length c2, .slice A3 r.K.length c3, .slice A4 r.P.length c4])) (by kernel_rfl) ?_ ?_
    · exact frY rfl (k_storeR rfl (ev_tmp h2) (ev_tmp h66) Q7 rfl rfl (by simp [Value.oneCell']))
    clear h66
    have Qe := Q7.setRow (cs := #[.int .i64 r.f, .int .i64 r.iv, .int .i64 r.c, .int .i64 r.u, .slice A1 r.M.length c1, .slice A2 r.D.length c2, .slice A3 r.K.length c3, .slice A4 r.P.length c4])
    have ee := exc_setRow w7 w.heap.size #[.int .i64 r.f, .int .i64 r.iv, .int .i64 r.c, .int .i64 r.u, .slice A1 r.M.length c1, .slice A2 r.D.length c2, .slice A3 r.K.length c3, .slice A4 r.P.length c4]
    have le := (ee w.heap.size).below (Nat.le_refl _)
    refine opL 2 3 (v := .int .i64 0) (w' := (w7.setRow w.heap.size #[.int .i64 r.f, .int .i64 r.iv, .int .i64 r.c, .int .i64 r.u, .slice A1 r.M.length c1, .slice A2 r.D.length c2, .slice A3 r.K.length c3, .slice A4 r.P.length c4])) (by kernel_rfl) (frZ hs) ?_ ?_
    · exact frY rfl (k_assign rfl rfl)
    refine frN9 hs hd h2 h4 h5 h21 h22 h23 h58 h13 h63 ?_; clear hs hd h2 h4 h5 h21 h22 h23 h58 h13 h63; intro a hs hd h2 h4 h5 h21 h22 h23 h58 h13 h63 h3
    refine wp_ret ?_
    have i7 := (i1.exc (Exc.of (b := w.heap.size) l7) (by omega)).exc (ee w7.heap.size) (by omega)
    have j7 := (i2.exc (Exc.of (b := w.heap.size) l7) (by omega)).exc (ee w7.heap.size) (by omega)
    have k7 := (i3.exc (Exc.of (b := w.heap.size) l7) (by omega)).exc (ee w7.heap.size) (by omega)
    have m7 := (i4.exc (Exc.of (b := w.heap.size) l7) (by omega)).exc (ee w7.heap.size) (by omega)
    exact hyes a _ r g A1 A2 A3 A4 c1 c2 c3 c4 hd h2 Qe h3 (by rw [hpe]; unfold Rfc.endP; dsimp only; rw [if_neg (by rw [hgf]; decide), if_neg (by simpa using hck)]) ⟨i7.plain, j7.plain, k7.plain, m7.plain, i1.1, i2.1, i3.1, i4.1⟩ hck (b7.trans le)
  ·
    refine wp_seq ?_
    refine wp_seq ?_
    refine wp_region (show wpOps _ _ _ [0, 1, 2] _ _ from ?_)
    refine opL 0 56 (v := .pointer (some ⟨w3.heap.size, 0, none⟩)) (w' := wx) (by kernel_rfl) (frZ hs) ?_ ?_
    · exact frY rfl (k_atG (i := 0) rfl (ev_tmp h5) rfl (by omega))
    refine frN6 hs hd h2 h4 h5 h21 h22 h23 ?_; clear hs hd h2 h4 h5 h21 h22 h23; intro a hs hd h2 h4 h5 h21 h22 h23 h56
    refine opL 1 57 (v := .bool true) (w' := wx) (by kernel_rfl) (frZ hs) ?_ ?_
    · exact frY rfl (k_loadBool rfl (ev_tmp h56) (by rw [hg0, hgf]))
    clear h56; revert hs hd h2 h4 h5 h21 h22 h23; refine frM6 ?_; intro a hs hd h2 h4 h5 h21 h22 h23 h57
    refine opL 2 58 (v := .bool false) (w' := wx) (by kernel_rfl) (frZ hs) ?_ ?_
    · exact frY rfl (o_not rfl (ev_tmp h57) rfl)
    clear h57; revert hs hd h2 h4 h5 h21 h22 h23; refine frM6 ?_; intro a hs hd h2 h4 h5 h21 h22 h23 h58
    refine wp_cond_false (ev_tmp h58) ?_
    refine wp_skip ?_
    refine wp_seq ?_
    refine wp_seq ?_
    refine wp_region (show wpOps _ _ _ [0, 1, 2] _ _ from ?_)
    refine opL 0 60 (v := .agg #[.int .i64 r.f, .int .i64 r.iv, .int .i64 r.c, .int .i64 r.u, .slice A1 r.M.length c1, .slice A2 r.D.length c2, .slice A3 r.K.length c3, .slice A4 r.P.length c4]) (w' := wx) (by kernel_rfl) (frZ hs) ?_ ?_
    · exact frY rfl (k_loadR rfl (ev_tmp h4) hB.rule)
    revert hs hd h2 h4 h5 h21 h22 h23 h58; refine frM7 ?_; intro a hs hd h2 h4 h5 h21 h22 h23 h58 h60
    have hc := check_any'' r.f r.iv r.c r.u A1 A2 A3 A4 c1 c2 c3 c4 r.M r.D r.K r.P wx hPl.lists
    have hx := fun ops Q rest d a i h1 h2 h3 => opL_call (P := Tryz.prog) (ops := ops) (Q := Q) (a := a) (w := wx) (rest := rest) i d h1 h2 h3 hc
    refine hx _ _ _ 61 _ 1 ?z929a ?z929b ?z929 ?z930
    case z929a => kernel_rfl
    case z929b => (rw [hs]; decide)
    case z929 => exact frY rfl (k_callCheck rfl rfl (ev_tmp h60))
    case z930 =>
    rintro _ w7 a ⟨rfl, l7⟩ F0
    replace hs := F0.z.trans hs
    replace hd := F0.e.trans hd
    replace h2 := (F0.n 2 (by decide)).trans h2
    replace h4 := (F0.n 4 (by decide)).trans h4
    replace h5 := (F0.n 5 (by decide)).trans h5
    replace h21 := (F0.n 21 (by decide)).trans h21
    replace h22 := (F0.n 22 (by decide)).trans h22
    replace h23 := (F0.n 23 (by decide)).trans h23
    replace h58 := (F0.n 58 (by decide)).trans h58
    clear h60
    have h61 := F0.s
    clear F0
    clear hx hc
    have Q7 := Q2.below l7 Q2.lt
    have B7 := hB.below l7 hB.lt
    have P7 := hPl.below l7
    have b7 := hb.trans (l7.mono hb.size)
    refine opL 2 13 (v := .int .i64 (Rul.check r.f r.iv r.c r.u r.M r.D r.K r.P)) (w' := w7) (by kernel_rfl) (frZ hs) ?_ ?_
    · exact frY rfl (k_assign rfl (ev_tmp h61))
    refine frN7 hs hd h2 h4 h5 h21 h22 h23 h58 ?_; clear hs hd h2 h4 h5 h21 h22 h23 h58 h61; intro a hs hd h2 h4 h5 h21 h22 h23 h58 h13
    refine wp_seq ?_
    refine wp_region (show wpOps _ _ _ [0, 1] _ _ from ?_)
    refine opL 0 62 (v := .int .i64 (Rul.check r.f r.iv r.c r.u r.M r.D r.K r.P)) (w' := w7) (by kernel_rfl) (frZ hs) ?_ ?_
    · exact frY rfl (k_move rfl (ev_tmp h13))
    revert hs hd h2 h4 h5 h21 h22 h23 h58 h13; refine frM8 ?_; intro a hs hd h2 h4 h5 h21 h22 h23 h58 h13 h62
    refine opL 1 63 (v := .bool true) (w' := w7) (by kernel_rfl) (frZ hs) ?_ ?_
    · exact frY rfl (o_neE rfl (ev_tmp h62) rfl (by simpa using hck))
    clear h62; revert hs hd h2 h4 h5 h21 h22 h23 h58 h13; refine frM8 ?_; intro a hs hd h2 h4 h5 h21 h22 h23 h58 h13 h63
    refine wp_cond_true (ev_tmp h63) ?_
    refine wp_seq ?_
    refine wp_region (show wpOps _ _ _ [0, 1, 2, 3] _ _ from ?_)
    refine opL 0 64 (v := .agg #[.int .i64 0, .int .i64 0, .int .i64 0, .int .i64 0, .slice none 0 0, .slice none 0 0, .slice none 0 0, .slice none 0 0]) (w' := w7) (by kernel_rfl) (frZ hs) ?_ ?_
    · exact frY rfl (k_buildR0 rfl)
    revert hs hd h2 h4 h5 h21 h22 h23 h58 h13 h63; refine frM9 ?_; intro a hs hd h2 h4 h5 h21 h22 h23 h58 h13 h63 h64
    refine opL 1 65 (v := .int .i64 (Rul.check r.f r.iv r.c r.u r.M r.D r.K r.P)) (w' := w7) (by kernel_rfl) (frZ hs) ?_ ?_
    · exact frY rfl (k_move rfl (ev_tmp h13))
    revert hs hd h2 h4 h5 h21 h22 h23 h58 h13 h63 h64; refine frM10 ?_; intro a hs hd h2 h4 h5 h21 h22 h23 h58 h13 h63 h64 h65
    refine opL_store 2 (w' := (w7.setRow w.heap.size #[.int .i64 0, .int .i64 0, .int .i64 0, .int .i64 0, .slice none 0 0, .slice none 0 0, .slice none 0 0, .slice none 0 0])) (by kernel_rfl) ?_ ?_
    · exact frY rfl (k_storeR rfl (ev_tmp h2) (ev_tmp h64) Q7 rfl rfl (by simp [Value.oneCell']))
    clear h64
    have Qe := Q7.setRow (cs := #[.int .i64 0, .int .i64 0, .int .i64 0, .int .i64 0, .slice none 0 0, .slice none 0 0, .slice none 0 0, .slice none 0 0])
    have le := (exc_setRow w7 w.heap.size #[.int .i64 0, .int .i64 0, .int .i64 0, .int .i64 0, .slice none 0 0, .slice none 0 0, .slice none 0 0, .slice none 0 0] w.heap.size).below (Nat.le_refl _)
    refine opL 3 3 (v := .int .i64 (Rul.check r.f r.iv r.c r.u r.M r.D r.K r.P)) (w' := (w7.setRow w.heap.size #[.int .i64 0, .int .i64 0, .int .i64 0, .int .i64 0, .slice none 0 0, .slice none 0 0, .slice none 0 0, .slice none 0 0])) (by kernel_rfl) (frZ hs) ?_ ?_
    · exact frY rfl (k_assign rfl (ev_tmp h65))
    refine frN9 hs hd h2 h4 h5 h21 h22 h23 h58 h13 h63 ?_; clear hs hd h2 h4 h5 h21 h22 h23 h58 h13 h63 h65; intro a hs hd h2 h4 h5 h21 h22 h23 h58 h13 h63 h3
    refine wp_ret ?_
    exact hfin a _ _ hd h2 Qe h3 (by rw [hpe]; unfold Rfc.endP; dsimp only; rw [if_neg (by rw [hgf]; decide), if_pos hck]) (b7.trans le)

theorem parse_any (s : List UInt8) (w : World) (hT : Tabs w) :
    Calls Tryz.prog 11 #[.string ⟨s.toArray⟩] w fun e w' => ∃ v, e = .returned v ∧ Out w' (Rfc.parse s) v ∧ Below w.heap.size w w' := by
  by_cases hl : s.length ≤ 4096
  · exact parse_some s w hT hl
  · exact parse_long s w (by omega)
end Go.Proofs.YtocpmljkmdpfkaaGreatDoor
