/-
  A text as a rule: rfc.Parse.
-/
import Derived.Test.YtjdjekpbjnkliaaGreatDoorRf2
import Derived.Test.YtjdjekpbjnkliaaGreatDoorRg5
namespace Go.Proofs.YtjdjekpbjnkliaaGreatDoor
open Go.RowKit
namespace Rfc
inductive St where
  | bad (n : Int)
  | go (r : Ru) (g : List Bool)
noncomputable def stepP (x : List UInt8) (r : Ru) (g : List Bool) : St :=
  if (Lib.cut x [61]).2.2 = false then .bad 1 else match part (Lib.cut x [61]).1 with
    | none => .bad 1
    | some p => if g.getD p false = true then .bad 5 else match setF p (Lib.cut x [61]).2.1 r with
      | none => .bad 1
      | some r' => .go r' (g.set p true)
noncomputable def runP : List (List UInt8) → Ru → List Bool → St
  | [], r, g => .go r g
  | x :: l, r, g => match stepP x r g with
    | .bad n => .bad n
    | .go r' g' => runP l r' g'
noncomputable def endP : St → St
  | .bad n => .bad n
  | .go r g => if g.getD 0 false = false then .bad 1 else if Rul.check r.f r.iv r.c r.u r.M r.D r.K r.P ≠ 0 then .bad (Rul.check r.f r.iv r.c r.u r.M r.D r.K r.P) else .go r g
noncomputable def parse (s : List UInt8) : St := if 4096 < s.length then .bad 2 else endP (runP (spl s 59) ⟨0, 1, 0, 0, [], [], [], []⟩ (List.replicate 8 false))
theorem part_lt {s : List UInt8} {p : Nat} (h : part s = some p) : p < 8 := by
  have : ∀ (k i : Nat), idx nm s i k = some p → p < i + k := by
    intro k
    induction k with
    | zero => intro i h; cases h
    | succ k ih =>
      intro i h
      unfold idx at h
      split at h
      · obtain rfl := Option.some.inj h; omega
      · have := ih (i + 1) h; omega
  have := this 8 0 h
  omega
end Rfc
def Out (w : World) (o : Rfc.St) (v : Value) : Prop := match o with
  | .bad n => v = .tuple #[.agg #[.int .i64 0, .int .i64 0, .int .i64 0, .int .i64 0, .slice none 0 0, .slice none 0 0, .slice none 0 0, .slice none 0 0], .int .i64 n]
  | .go r _ => ∃ A1 A2 A3 A4 c1 c2 c3 c4, v = .tuple #[.agg #[.int .i64 r.f, .int .i64 r.iv, .int .i64 r.c, .int .i64 r.u, .slice A1 r.M.length c1, .slice A2 r.D.length c2, .slice A3 r.K.length c3, .slice A4 r.P.length c4], .int .i64 0] ∧ PlainR w A1 A2 A3 A4 r.M r.D r.K r.P ∧ Rul.check r.f r.iv r.c r.u r.M r.D r.K r.P = 0
theorem cut_any (x : List UInt8) (w : World) (hT : Tabs w) (hl : x.length ≤ 100000) : Calls Tryz.prog 17 #[.string ⟨x.toArray⟩, .string ⟨#[61]⟩] w fun e w' => ∃ v, e = .returned v ∧ v = .tuple #[.string ⟨(Lib.cut x [61]).1.toArray⟩, .string ⟨(Lib.cut x [61]).2.1.toArray⟩, .bool (Lib.cut x [61]).2.2] ∧ Below w.heap.size w w' := by
  obtain ⟨m, hm⟩ := hT.max
  refine (Tryz.strings_Cut ⟨x.toArray⟩ ⟨#[61]⟩ m w (by rw [ba_size]; omega) hm).mono ?_
  rintro e w' ⟨rfl, n, rfl⟩
  exact ⟨_, rfl, by rw [ba_data], below_drewN' n⟩
theorem cut_le (x : List UInt8) : (Lib.cut x [61]).2.1.length ≤ x.length := by
  unfold Lib.cut
  split
  · simp
  · simp
section
variable {w : World} {ρ : Operand → Value} {o : Oper} {x y z : Operand} {v u r : Value} {b i : Nat} {q : Bool} {ad : Addr}
theorem c_Cut (ho : o.op = .call ⟨.value (.func 17), #[x, y], #[9, 9]⟩) (hf : ρ (.func 17) = .func (.func 17) #[] #[]) (hx : ρ x = v) (hy : ρ y = u) : (execOp ρ o).run Tryz.prog w = .ok (.enter 17 #[v, u]) w := by
  simp only [execOp, ho]
  go_simp
theorem c_partOf (ho : o.op = .call ⟨.value (.func 18), #[x], #[9]⟩) (hf : ρ (.func 18) = .func (.func 18) #[] #[]) (hx : ρ x = v) : (execOp ρ o).run Tryz.prog w = .ok (.enter 18 #[v]) w := by
  simp only [execOp, ho]
  go_simp
theorem c_pVal (ho : o.op = .call ⟨.value (.func 19), #[x, y, z], #[58, 54, 9]⟩) (hf : ρ (.func 19) = .func (.func 19) #[] #[]) (hx : ρ x = v) (hy : ρ y = u) (hz : ρ z = r) : (execOp ρ o).run Tryz.prog w = .ok (.enter 19 #[v, u, r]) w := by
  simp only [execOp, ho]
  go_simp
theorem k_buildR0 (ho : o.op = .build 28 #[]) : (execOp ρ o).run Tryz.prog w = .ok (.value (.agg #[.int .i64 0, .int .i64 0, .int .i64 0, .int .i64 0, .slice none 0 0, .slice none 0 0, .slice none 0 0, .slice none 0 0])) w := by
  simp only [execOp, ho]
  go_simp
theorem k_buildR1 (ho : o.op = .build 28 #[(1, .const (.int .i64 1))]) (hc : ρ (.const (.int .i64 1)) = .int .i64 1) : (execOp ρ o).run Tryz.prog w = .ok (.value (.agg #[.int .i64 0, .int .i64 1, .int .i64 0, .int .i64 0, .slice none 0 0, .slice none 0 0, .slice none 0 0, .slice none 0 0])) w := by
  simp only [execOp, ho]
  go_simp
theorem k_allocG (ho : o.op = .alloc 51) : (execOp ρ o).run Tryz.prog w = .ok (.value (.pointer (some ⟨w.heap.size, 0, none⟩))) (w.alloc (.cells #[.bool false, .bool false, .bool false, .bool false, .bool false, .bool false, .bool false, .bool false] 51)) := by
  simp only [execOp, ho]
  go_simp
theorem k_atG (ho : o.op = .indexAddr 51 x y) (hx : ρ x = .pointer (some ⟨b, 0, none⟩)) (hy : ρ y = .int .i64 i) (hi : i < 8) : (execOp ρ o).run Tryz.prog w = .ok (.value (.pointer (some ⟨b, i, none⟩))) w := by
  simp only [execOp, ho]
  go_simp
  intro h
  omega
theorem k_loadBool (ho : o.op = .load 4 x) (hx : ρ x = .pointer (some ad)) (hc : w.cell? ad = some (.bool q)) : (execOp ρ o).run Tryz.prog w = .ok (.value (.bool q)) w := by
  simp only [execOp, ho, hx]
  go_simp
theorem k_storeBool {t : TypeId} {cs : Array Value} (ho : o.op = .store 4 x y) (hx : ρ x = .pointer (some ⟨b, i, none⟩)) (hy : ρ y = .bool q) (hb : Blk w b t cs) (hi : i < cs.size) :
    (execOp ρ o).run Tryz.prog w = .ok .skip (w.setCell ⟨b, i, none⟩ (.bool q)) := by
  have hc := hb.cell i
  have hf := hb.frozen i
  rw [Array.getElem?_eq_getElem hi] at hc
  simp only [execOp, ho, hx, hy]
  go_simp
theorem k_lenT (ho : o.op = .call ⟨.builtin .len, #[x], #[9]⟩) {t : ByteArray} (hx : ρ x = .string t) : (execOp ρ o).run Tryz.prog w = .ok (.value (.int .i64 t.size)) w := by
  simp only [execOp, ho]
  go_simp
end
theorem results_parse {tmps : Array Value} {w : World} {b : Nat} {f iv c u : Int} {sM sD sW sP r : Value} (hd : tmps.getD 2 undef = .pointer (some ⟨b, 0, none⟩)) (h : RuleAt w b f iv c u sM sD sW sP) (h3 : tmps.getD 3 undef = r) :
    (results Tryz.f6 tmps).run Tryz.prog w = .ok (.tuple #[.agg #[.int .i64 f, .int .i64 iv, .int .i64 c, .int .i64 u, sM, sD, sW, sP], r]) w := by
  obtain ⟨-, c0, c1, c2, c3, c4, c5, c6, c7⟩ := h
  have hr : tmps[2]?.getD undef = .pointer (some ⟨b, 0, none⟩) := by simpa using hd
  have hr3 : tmps[3]?.getD undef = r := by simpa using h3
  have hl : (loadVar 28 ⟨b, 0, none⟩).run Tryz.prog w = .ok (.agg #[.int .i64 f, .int .i64 iv, .int .i64 c, .int .i64 u, sM, sD, sW, sP]) w := by go_simp
  simp [results, hr, hr3, asAddr, hl]
noncomputable def paBody : Code := Tryz.f6.body.getD .skip
noncomputable def paRound : Code := (Tryz.f6.body.bind loopC).getD .skip
structure LpQ (w : World) (rb gb sb lo : Nat) (s : List UInt8) (i : Nat) (r : Rfc.Ru) (g : List Bool) (a : Act) (wx : World) : Prop where
  d : a.defers = []
  z : a.tmps.size = 67
  s2 : a.tmps.getD 2 undef = .pointer (some ⟨w.heap.size, 0, none⟩)
  s4 : a.tmps.getD 4 undef = .pointer (some ⟨rb, 0, none⟩)
  s5 : a.tmps.getD 5 undef = .pointer (some ⟨gb, 0, none⟩)
  s20 : a.tmps.getD 20 undef = .slice (some ⟨sb, 0, none⟩) (Rfc.spl s 59).length (Rfc.spl s 59).length
  s21 : a.tmps.getD 21 undef = .int .i64 (Rfc.spl s 59).length
  s22 : a.tmps.getD 22 undef = .int .i64 i
  iN : i ≤ (Rfc.spl s 59).length
  m : Rfc.runP (Rfc.spl s 59) (⟨0, 1, 0, 0, [], [], [], []⟩ : Rfc.Ru) (List.replicate 8 false) = Rfc.runP ((Rfc.spl s 59).drop i) r g
  g8 : g.length = 8
  Q2 : Blk wx w.heap.size 28 #[.int .i64 0, .int .i64 0, .int .i64 0, .int .i64 0, .slice none 0 0, .slice none 0 0, .slice none 0 0, .slice none 0 0]
  R : RuB wx rb lo r
  G : Blk wx gb 51 (g.map Value.bool).toArray
  S : Blk wx sb 9 ((Rfc.spl s 59).map fun x => Value.string ⟨x.toArray⟩).toArray
  o : w.heap.size < rb ∧ rb < gb ∧ gb < sb ∧ sb < lo ∧ lo ≤ wx.heap.size
  b : Below w.heap.size w wx

set_option maxRecDepth 100000 in
set_option maxHeartbeats 2000000 in
theorem pa_nofound (w : World) (rb gb sb lo : Nat) (s : List UInt8) (hT : Tabs w) (hl : s.length ≤ 4096) (i : Nat) (r : Rfc.Ru) (g : List Bool) (a : Act) (wx : World) (Q : Exit → Act → World → Prop) (J : LpQ w rb gb sb lo s i r g a wx) (hlt : i < (Rfc.spl s 59).length) (hf : (Lib.cut ((Rfc.spl s 59)[i]) [61]).2.2 = false) (hfin : ∀ (a' : Act) (w' : World) (n : Int), a'.defers = [] → a'.tmps.getD 2 undef = .pointer (some ⟨w.heap.size, 0, none⟩) → Blk w' w.heap.size 28 #[.int .i64 0, .int .i64 0, .int .i64 0, .int .i64 0, .slice none 0 0, .slice none 0 0, .slice none 0 0, .slice none 0 0] → a'.tmps.getD 3 undef = .int .i64 n → Rfc.runP (Rfc.spl s 59) (⟨0, 1, 0, 0, [], [], [], []⟩ : Rfc.Ru) (List.replicate 8 false) = .bad n → Below w.heap.size w w' → Q .ret a' w') :
    paRound.wp Tryz.prog (Exit.then (fun a' w' => (∃ i r g, LpQ w rb gb sb lo s i r g a' w') ∧ ((Rfc.spl s 59).length - intOf (a'.tmps.getD 22 undef)).toNat < ((Rfc.spl s 59).length - intOf (a.tmps.getD 22 undef)).toNat) Q) a wx := by
  obtain ⟨hd, hs, h2, h4, h5, h20, h21, h22, hi, hm, g8, Q2, hR, hG, hS, oo, hb⟩ := J
  have kk := ((((((kn hs hd).p h2).p h4).p h5).p h20).p h21).p h22; clear hs hd h2 h4 h5 h20 h21 h22
  have hpl : ((Rfc.spl s 59)[i]).length ≤ 100000 := Nat.le_trans (piece_le _ s 59 _ (List.getElem_mem hlt)) (by omega)
  have hcell : wx.cell? ⟨sb, i, none⟩ = some (.string ⟨(((Rfc.spl s 59)[i])).toArray⟩) := by rw [hS.cell i]; simp [hlt]
  have hspl : (Rfc.spl s 59).length ≤ 100001 := by
    rw [spl_len]
    have := Lib.countB_le ⟨#[59]⟩ (Nat.le_refl 1) _ ⟨s.toArray⟩ (Nat.le_refl _)
    rw [ba_size] at this
    omega
  have estep : Rfc.runP ((Rfc.spl s 59).drop i) r g = .bad 1 := by
    have e : Rfc.stepP ((Rfc.spl s 59)[i]) r g = .bad 1 := by
      unfold Rfc.stepP
      rw [if_pos hf]
    rw [List.drop_eq_getElem_cons hlt, Rfc.runP, e]
  have e22 := (kk.g 22 rfl)
  rw [e22]
  clear e22
  unfold paRound
  conv => arg 2; whnf
  refine wp_seq ?_
  refine wpr 1 ?_
  refine opk 0 23 (v := .bool true) kk (frY rfl (o_ltI rfl (kk.e 22 rfl) (kk.e 21 rfl) (decide_eq_true (by omega)))) ?_; clear kk; intro a kk
  refine wp_seq ?_
  refine wp_cond_true (kk.e 23 rfl) ?_
  refine wp_skip ?_
  refine wp_seq ?_
  refine wp_block ?_
  refine wp_seq ?_
  refine wpr 3 ?_
  refine opk 0 24 (v := .pointer (some ⟨sb, i, none⟩)) kk (frY rfl (k_atS' rfl (kk.e 20 rfl) (kk.e 22 rfl) hlt)) ?_; clear kk; intro a kk
  refine opk 1 25 (v := .string ⟨(((Rfc.spl s 59)[i])).toArray⟩) kk (frY rfl (k_loadStr rfl (kk.e 24 rfl) hcell)) ?_; clear kk; intro a kk
  refine opk 2 7 kk (frY rfl (k_assign rfl (kk.e 25 rfl))) ?_; clear kk; intro a kk
  refine wp_seq ?_
  refine wpr 9 ?_
  refine opk 0 27 kk (frY rfl (k_move rfl (kk.e 7 rfl))) ?_; clear kk; intro a kk
  have hc := cut_any ((Rfc.spl s 59)[i]) wx (hT.below hb) hpl
  refine opkc 1 28 kk hc (frY rfl (c_Cut rfl rfl (kk.e 27 rfl) rfl)) ?_; clear kk hc
  rintro _ w2 a ⟨rfl, l2⟩ F0
  rw [hf] at F0
  have kk := F0; clear F0
  replace Q2 := Q2.below l2 Q2.lt
  replace hG := hG.below l2 hG.lt
  replace hS := hS.below l2 hS.lt
  replace hR := hR.exc (Exc.of (b := gb) l2) (by omega) (by omega)
  replace hb := hb.trans (l2.mono hb.size)
  have zlw2 : lo ≤ w2.heap.size := by have := l2.size; omega
  refine opk 2 26 kk (frY rfl (k_move rfl (kk.e 28 rfl))) ?_; clear kk; intro a kk
  refine opk 3 29 (v := .string ⟨((Lib.cut ((Rfc.spl s 59)[i]) [61]).1).toArray⟩) kk (frY rfl (k_extract rfl (kk.e 26 rfl) rfl)) ?_; clear kk; intro a kk
  refine opk 4 30 (v := .string ⟨((Lib.cut ((Rfc.spl s 59)[i]) [61]).2.1).toArray⟩) kk (frY rfl (k_extract rfl (kk.e 26 rfl) rfl)) ?_; clear kk; intro a kk
  refine opk 5 31 (v := .bool false) kk (frY rfl (k_extract rfl (kk.e 26 rfl) rfl)) ?_; clear kk; intro a kk
  refine opk 6 8 kk (frY rfl (k_assign rfl (kk.e 29 rfl))) ?_; clear kk; intro a kk
  refine opk 7 9 kk (frY rfl (k_assign rfl (kk.e 30 rfl))) ?_; clear kk; intro a kk
  refine opk 8 10 kk (frY rfl (k_assign rfl (kk.e 31 rfl))) ?_; clear kk; intro a kk
  refine wp_seq ?_
  refine wpr 7 ?_
  refine opk 0 33 kk (frY rfl (k_move rfl (kk.e 8 rfl))) ?_; clear kk; intro a kk
  have hc := po_any (Lib.cut ((Rfc.spl s 59)[i]) [61]).1 w2 (hT.below hb)
  refine opkc 1 34 kk hc (frY rfl (c_partOf rfl rfl (kk.e 33 rfl))) ?_; clear kk hc
  rintro _ w3 a ⟨rfl, l3⟩ F0
  have kk := F0; clear F0
  replace Q2 := Q2.below l3 Q2.lt
  replace hG := hG.below l3 hG.lt
  replace hS := hS.below l3 hS.lt
  replace hR := hR.exc (Exc.of (b := gb) l3) (by omega) (by omega)
  replace hb := hb.trans (l3.mono hb.size)
  have zlw3 : lo ≤ w3.heap.size := by have := l3.size; omega
  refine opk 2 32 kk (frY rfl (k_move rfl (kk.e 34 rfl))) ?_; clear kk; intro a kk
  refine opk 3 35 (v := .int .i64 ((Rfc.part (Lib.cut ((Rfc.spl s 59)[i]) [61]).1).getD 0 : Nat)) kk (frY rfl (k_extract rfl (kk.e 32 rfl) rfl)) ?_; clear kk; intro a kk
  refine opk 4 36 (v := .bool (Rfc.part (Lib.cut ((Rfc.spl s 59)[i]) [61]).1).isSome) kk (frY rfl (k_extract rfl (kk.e 32 rfl) rfl)) ?_; clear kk; intro a kk
  refine opk 5 11 kk (frY rfl (k_assign rfl (kk.e 35 rfl))) ?_; clear kk; intro a kk
  refine opk 6 12 kk (frY rfl (k_assign rfl (kk.e 36 rfl))) ?_; clear kk; intro a kk
  refine wp_seq ?_
  refine wp_seq ?_
  refine wpr 6 ?_
  refine opk 0 37 kk (frY rfl (k_move rfl (kk.e 10 rfl))) ?_; clear kk; intro a kk
  refine opk 1 38 (v := .bool true) kk (frY rfl (o_not rfl (kk.e 37 rfl) rfl)) ?_; clear kk; intro a kk
  refine opk 2 39 kk (frY rfl (k_move rfl (kk.e 38 rfl))) ?_; clear kk; intro a kk
  refine opkn 3 40 kk (frX (wanted_at (b := true) (want := false) rfl (by kernel_rfl) (kk.g 39 rfl))) ?_; clear kk; intro a kk
  refine opkn 4 41 kk (frX (wanted_at (b := true) (want := false) rfl (by kernel_rfl) (kk.g 39 rfl))) ?_; clear kk; intro a kk
  refine opk 5 42 (v := .bool true) kk (frY rfl (k_pick_yes rfl (kk.e 39 rfl) rfl)) ?_; clear kk; intro a kk
  refine wp_cond_true (kk.e 42 rfl) ?_
  refine wp_seq ?_
  refine wpr 3 ?_
  refine opk 0 43 (v := .agg #[.int .i64 0, .int .i64 0, .int .i64 0, .int .i64 0, .slice none 0 0, .slice none 0 0, .slice none 0 0, .slice none 0 0]) kk (frY rfl (k_buildR0 rfl)) ?_; clear kk; intro a kk
  refine opL_store 1 (w' := (w3.setRow w.heap.size #[.int .i64 0, .int .i64 0, .int .i64 0, .int .i64 0, .slice none 0 0, .slice none 0 0, .slice none 0 0, .slice none 0 0])) (by kernel_rfl) ?_ ?_
  · exact frY rfl (k_storeR rfl (kk.e 2 rfl) (kk.e 43 rfl) Q2 rfl rfl (by simp [Value.oneCell']))
  have Qe := Q2.setRow (cs := #[.int .i64 0, .int .i64 0, .int .i64 0, .int .i64 0, .slice none 0 0, .slice none 0 0, .slice none 0 0, .slice none 0 0])
  have le := (exc_setRow w3 w.heap.size #[.int .i64 0, .int .i64 0, .int .i64 0, .int .i64 0, .slice none 0 0, .slice none 0 0, .slice none 0 0, .slice none 0 0] w.heap.size).below (Nat.le_refl _)
  refine opk 2 3 (v := .int .i64 1) (w' := (w3.setRow w.heap.size #[.int .i64 0, .int .i64 0, .int .i64 0, .int .i64 0, .slice none 0 0, .slice none 0 0, .slice none 0 0, .slice none 0 0])) kk (frY rfl (k_assign rfl rfl)) ?_; clear kk; intro a kk
  refine wp_ret ?_
  exact hfin a _ 1 kk.d (kk.g 2 rfl) Qe (kk.g 3 rfl) (by rw [hm, estep]) (hb.trans le)

set_option maxRecDepth 100000 in
set_option maxHeartbeats 2000000 in
theorem pa_unknown (w : World) (rb gb sb lo : Nat) (s : List UInt8) (hT : Tabs w) (hl : s.length ≤ 4096) (i : Nat) (r : Rfc.Ru) (g : List Bool) (a : Act) (wx : World) (Q : Exit → Act → World → Prop) (J : LpQ w rb gb sb lo s i r g a wx) (hlt : i < (Rfc.spl s 59).length) (hf : (Lib.cut ((Rfc.spl s 59)[i]) [61]).2.2 = true) (hk : Rfc.part (Lib.cut ((Rfc.spl s 59)[i]) [61]).1 = none) (hfin : ∀ (a' : Act) (w' : World) (n : Int), a'.defers = [] → a'.tmps.getD 2 undef = .pointer (some ⟨w.heap.size, 0, none⟩) → Blk w' w.heap.size 28 #[.int .i64 0, .int .i64 0, .int .i64 0, .int .i64 0, .slice none 0 0, .slice none 0 0, .slice none 0 0, .slice none 0 0] → a'.tmps.getD 3 undef = .int .i64 n → Rfc.runP (Rfc.spl s 59) (⟨0, 1, 0, 0, [], [], [], []⟩ : Rfc.Ru) (List.replicate 8 false) = .bad n → Below w.heap.size w w' → Q .ret a' w') :
    paRound.wp Tryz.prog (Exit.then (fun a' w' => (∃ i r g, LpQ w rb gb sb lo s i r g a' w') ∧ ((Rfc.spl s 59).length - intOf (a'.tmps.getD 22 undef)).toNat < ((Rfc.spl s 59).length - intOf (a.tmps.getD 22 undef)).toNat) Q) a wx := by
  obtain ⟨hd, hs, h2, h4, h5, h20, h21, h22, hi, hm, g8, Q2, hR, hG, hS, oo, hb⟩ := J
  have kk := ((((((kn hs hd).p h2).p h4).p h5).p h20).p h21).p h22; clear hs hd h2 h4 h5 h20 h21 h22
  have hpl : ((Rfc.spl s 59)[i]).length ≤ 100000 := Nat.le_trans (piece_le _ s 59 _ (List.getElem_mem hlt)) (by omega)
  have hcell : wx.cell? ⟨sb, i, none⟩ = some (.string ⟨(((Rfc.spl s 59)[i])).toArray⟩) := by rw [hS.cell i]; simp [hlt]
  have hspl : (Rfc.spl s 59).length ≤ 100001 := by
    rw [spl_len]
    have := Lib.countB_le ⟨#[59]⟩ (Nat.le_refl 1) _ ⟨s.toArray⟩ (Nat.le_refl _)
    rw [ba_size] at this
    omega
  have estep : Rfc.runP ((Rfc.spl s 59).drop i) r g = .bad 1 := by
    have e : Rfc.stepP ((Rfc.spl s 59)[i]) r g = .bad 1 := by
      unfold Rfc.stepP
      rw [if_neg (by rw [hf]; decide), hk]
    rw [List.drop_eq_getElem_cons hlt, Rfc.runP, e]
  have e22 := (kk.g 22 rfl)
  rw [e22]
  clear e22
  unfold paRound
  conv => arg 2; whnf
  refine wp_seq ?_
  refine wpr 1 ?_
  refine opk 0 23 (v := .bool true) kk (frY rfl (o_ltI rfl (kk.e 22 rfl) (kk.e 21 rfl) (decide_eq_true (by omega)))) ?_; clear kk; intro a kk
  refine wp_seq ?_
  refine wp_cond_true (kk.e 23 rfl) ?_
  refine wp_skip ?_
  refine wp_seq ?_
  refine wp_block ?_
  refine wp_seq ?_
  refine wpr 3 ?_
  refine opk 0 24 (v := .pointer (some ⟨sb, i, none⟩)) kk (frY rfl (k_atS' rfl (kk.e 20 rfl) (kk.e 22 rfl) hlt)) ?_; clear kk; intro a kk
  refine opk 1 25 (v := .string ⟨(((Rfc.spl s 59)[i])).toArray⟩) kk (frY rfl (k_loadStr rfl (kk.e 24 rfl) hcell)) ?_; clear kk; intro a kk
  refine opk 2 7 kk (frY rfl (k_assign rfl (kk.e 25 rfl))) ?_; clear kk; intro a kk
  refine wp_seq ?_
  refine wpr 9 ?_
  refine opk 0 27 kk (frY rfl (k_move rfl (kk.e 7 rfl))) ?_; clear kk; intro a kk
  have hc := cut_any ((Rfc.spl s 59)[i]) wx (hT.below hb) hpl
  refine opkc 1 28 kk hc (frY rfl (c_Cut rfl rfl (kk.e 27 rfl) rfl)) ?_; clear kk hc
  rintro _ w2 a ⟨rfl, l2⟩ F0
  rw [hf] at F0
  have kk := F0; clear F0
  replace Q2 := Q2.below l2 Q2.lt
  replace hG := hG.below l2 hG.lt
  replace hS := hS.below l2 hS.lt
  replace hR := hR.exc (Exc.of (b := gb) l2) (by omega) (by omega)
  replace hb := hb.trans (l2.mono hb.size)
  have zlw2 : lo ≤ w2.heap.size := by have := l2.size; omega
  refine opk 2 26 kk (frY rfl (k_move rfl (kk.e 28 rfl))) ?_; clear kk; intro a kk
  refine opk 3 29 (v := .string ⟨((Lib.cut ((Rfc.spl s 59)[i]) [61]).1).toArray⟩) kk (frY rfl (k_extract rfl (kk.e 26 rfl) rfl)) ?_; clear kk; intro a kk
  refine opk 4 30 (v := .string ⟨((Lib.cut ((Rfc.spl s 59)[i]) [61]).2.1).toArray⟩) kk (frY rfl (k_extract rfl (kk.e 26 rfl) rfl)) ?_; clear kk; intro a kk
  refine opk 5 31 (v := .bool true) kk (frY rfl (k_extract rfl (kk.e 26 rfl) rfl)) ?_; clear kk; intro a kk
  refine opk 6 8 kk (frY rfl (k_assign rfl (kk.e 29 rfl))) ?_; clear kk; intro a kk
  refine opk 7 9 kk (frY rfl (k_assign rfl (kk.e 30 rfl))) ?_; clear kk; intro a kk
  refine opk 8 10 kk (frY rfl (k_assign rfl (kk.e 31 rfl))) ?_; clear kk; intro a kk
  refine wp_seq ?_
  refine wpr 7 ?_
  refine opk 0 33 kk (frY rfl (k_move rfl (kk.e 8 rfl))) ?_; clear kk; intro a kk
  have hc := po_any (Lib.cut ((Rfc.spl s 59)[i]) [61]).1 w2 (hT.below hb)
  refine opkc 1 34 kk hc (frY rfl (c_partOf rfl rfl (kk.e 33 rfl))) ?_; clear kk hc
  rintro _ w3 a ⟨rfl, l3⟩ F0
  rw [hk] at F0
  have kk := F0; clear F0
  replace Q2 := Q2.below l3 Q2.lt
  replace hG := hG.below l3 hG.lt
  replace hS := hS.below l3 hS.lt
  replace hR := hR.exc (Exc.of (b := gb) l3) (by omega) (by omega)
  replace hb := hb.trans (l3.mono hb.size)
  have zlw3 : lo ≤ w3.heap.size := by have := l3.size; omega
  refine opk 2 32 kk (frY rfl (k_move rfl (kk.e 34 rfl))) ?_; clear kk; intro a kk
  refine opk 3 35 (v := .int .i64 0) kk (frY rfl (k_extract rfl (kk.e 32 rfl) rfl)) ?_; clear kk; intro a kk
  refine opk 4 36 (v := .bool false) kk (frY rfl (k_extract rfl (kk.e 32 rfl) rfl)) ?_; clear kk; intro a kk
  refine opk 5 11 kk (frY rfl (k_assign rfl (kk.e 35 rfl))) ?_; clear kk; intro a kk
  refine opk 6 12 kk (frY rfl (k_assign rfl (kk.e 36 rfl))) ?_; clear kk; intro a kk
  refine wp_seq ?_
  refine wp_seq ?_
  refine wpr 6 ?_
  refine opk 0 37 kk (frY rfl (k_move rfl (kk.e 10 rfl))) ?_; clear kk; intro a kk
  refine opk 1 38 (v := .bool false) kk (frY rfl (o_not rfl (kk.e 37 rfl) rfl)) ?_; clear kk; intro a kk
  refine opk 2 39 kk (frY rfl (k_move rfl (kk.e 38 rfl))) ?_; clear kk; intro a kk
  refine opk 3 40 kk (frY (wanted_at (b := false) (want := false) rfl (by kernel_rfl) (kk.g 39 rfl)) (k_move rfl (kk.e 12 rfl))) ?_; clear kk; intro a kk
  refine opk 4 41 (v := .bool true) kk (frY (wanted_at (b := false) (want := false) rfl (by kernel_rfl) (kk.g 39 rfl)) (o_not rfl (kk.e 40 rfl) rfl)) ?_; clear kk; intro a kk
  refine opk 5 42 (v := .bool true) kk (frY rfl (k_pick_no rfl (kk.e 39 rfl) (kk.e 41 rfl))) ?_; clear kk; intro a kk
  refine wp_cond_true (kk.e 42 rfl) ?_
  refine wp_seq ?_
  refine wpr 3 ?_
  refine opk 0 43 (v := .agg #[.int .i64 0, .int .i64 0, .int .i64 0, .int .i64 0, .slice none 0 0, .slice none 0 0, .slice none 0 0, .slice none 0 0]) kk (frY rfl (k_buildR0 rfl)) ?_; clear kk; intro a kk
  refine opL_store 1 (w' := (w3.setRow w.heap.size #[.int .i64 0, .int .i64 0, .int .i64 0, .int .i64 0, .slice none 0 0, .slice none 0 0, .slice none 0 0, .slice none 0 0])) (by kernel_rfl) ?_ ?_
  · exact frY rfl (k_storeR rfl (kk.e 2 rfl) (kk.e 43 rfl) Q2 rfl rfl (by simp [Value.oneCell']))
  have Qe := Q2.setRow (cs := #[.int .i64 0, .int .i64 0, .int .i64 0, .int .i64 0, .slice none 0 0, .slice none 0 0, .slice none 0 0, .slice none 0 0])
  have le := (exc_setRow w3 w.heap.size #[.int .i64 0, .int .i64 0, .int .i64 0, .int .i64 0, .slice none 0 0, .slice none 0 0, .slice none 0 0, .slice none 0 0] w.heap.size).below (Nat.le_refl _)
  refine opk 2 3 (v := .int .i64 1) (w' := (w3.setRow w.heap.size #[.int .i64 0, .int .i64 0, .int .i64 0, .int .i64 0, .slice none 0 0, .slice none 0 0, .slice none 0 0, .slice none 0 0])) kk (frY rfl (k_assign rfl rfl)) ?_; clear kk; intro a kk
  refine wp_ret ?_
  exact hfin a _ 1 kk.d (kk.g 2 rfl) Qe (kk.g 3 rfl) (by rw [hm, estep]) (hb.trans le)

set_option maxRecDepth 100000 in
set_option maxHeartbeats 2000000 in
theorem pa_twice (w : World) (rb gb sb lo : Nat) (s : List UInt8) (hT : Tabs w) (hl : s.length ≤ 4096) (i : Nat) (r : Rfc.Ru) (g : List Bool) (a : Act) (wx : World) (Q : Exit → Act → World → Prop) (J : LpQ w rb gb sb lo s i r g a wx) (hlt : i < (Rfc.spl s 59).length) (hf : (Lib.cut ((Rfc.spl s 59)[i]) [61]).2.2 = true) (p : Nat) (hk : Rfc.part (Lib.cut ((Rfc.spl s 59)[i]) [61]).1 = some p) (hgp : g.getD p false = true) (hfin : ∀ (a' : Act) (w' : World) (n : Int), a'.defers = [] → a'.tmps.getD 2 undef = .pointer (some ⟨w.heap.size, 0, none⟩) → Blk w' w.heap.size 28 #[.int .i64 0, .int .i64 0, .int .i64 0, .int .i64 0, .slice none 0 0, .slice none 0 0, .slice none 0 0, .slice none 0 0] → a'.tmps.getD 3 undef = .int .i64 n → Rfc.runP (Rfc.spl s 59) (⟨0, 1, 0, 0, [], [], [], []⟩ : Rfc.Ru) (List.replicate 8 false) = .bad n → Below w.heap.size w w' → Q .ret a' w') :
    paRound.wp Tryz.prog (Exit.then (fun a' w' => (∃ i r g, LpQ w rb gb sb lo s i r g a' w') ∧ ((Rfc.spl s 59).length - intOf (a'.tmps.getD 22 undef)).toNat < ((Rfc.spl s 59).length - intOf (a.tmps.getD 22 undef)).toNat) Q) a wx := by
  obtain ⟨hd, hs, h2, h4, h5, h20, h21, h22, hi, hm, g8, Q2, hR, hG, hS, oo, hb⟩ := J
  have kk := ((((((kn hs hd).p h2).p h4).p h5).p h20).p h21).p h22; clear hs hd h2 h4 h5 h20 h21 h22
  have hpl : ((Rfc.spl s 59)[i]).length ≤ 100000 := Nat.le_trans (piece_le _ s 59 _ (List.getElem_mem hlt)) (by omega)
  have hcell : wx.cell? ⟨sb, i, none⟩ = some (.string ⟨(((Rfc.spl s 59)[i])).toArray⟩) := by rw [hS.cell i]; simp [hlt]
  have hspl : (Rfc.spl s 59).length ≤ 100001 := by
    rw [spl_len]
    have := Lib.countB_le ⟨#[59]⟩ (Nat.le_refl 1) _ ⟨s.toArray⟩ (Nat.le_refl _)
    rw [ba_size] at this
    omega
  have estep : Rfc.runP ((Rfc.spl s 59).drop i) r g = .bad 5 := by
    have e : Rfc.stepP ((Rfc.spl s 59)[i]) r g = .bad 5 := by
      unfold Rfc.stepP
      rw [if_neg (by rw [hf]; decide), hk]; simp only []; rw [if_pos hgp]
    rw [List.drop_eq_getElem_cons hlt, Rfc.runP, e]
  have hp := Rfc.part_lt hk
  have hgc0 : ∀ wz : World, Blk wz gb 51 (g.map Value.bool).toArray → wz.cell? ⟨gb, p, none⟩ = some (.bool true) := fun wz hz => by
    rw [hz.cell p]
    have : p < g.length := by omega
    simp [this] at hgp ⊢
    exact hgp
  have e22 := (kk.g 22 rfl)
  rw [e22]
  clear e22
  unfold paRound
  conv => arg 2; whnf
  refine wp_seq ?_
  refine wpr 1 ?_
  refine opk 0 23 (v := .bool true) kk (frY rfl (o_ltI rfl (kk.e 22 rfl) (kk.e 21 rfl) (decide_eq_true (by omega)))) ?_; clear kk; intro a kk
  refine wp_seq ?_
  refine wp_cond_true (kk.e 23 rfl) ?_
  refine wp_skip ?_
  refine wp_seq ?_
  refine wp_block ?_
  refine wp_seq ?_
  refine wpr 3 ?_
  refine opk 0 24 (v := .pointer (some ⟨sb, i, none⟩)) kk (frY rfl (k_atS' rfl (kk.e 20 rfl) (kk.e 22 rfl) hlt)) ?_; clear kk; intro a kk
  refine opk 1 25 (v := .string ⟨(((Rfc.spl s 59)[i])).toArray⟩) kk (frY rfl (k_loadStr rfl (kk.e 24 rfl) hcell)) ?_; clear kk; intro a kk
  refine opk 2 7 kk (frY rfl (k_assign rfl (kk.e 25 rfl))) ?_; clear kk; intro a kk
  refine wp_seq ?_
  refine wpr 9 ?_
  refine opk 0 27 kk (frY rfl (k_move rfl (kk.e 7 rfl))) ?_; clear kk; intro a kk
  have hc := cut_any ((Rfc.spl s 59)[i]) wx (hT.below hb) hpl
  refine opkc 1 28 kk hc (frY rfl (c_Cut rfl rfl (kk.e 27 rfl) rfl)) ?_; clear kk hc
  rintro _ w2 a ⟨rfl, l2⟩ F0
  rw [hf] at F0
  have kk := F0; clear F0
  replace Q2 := Q2.below l2 Q2.lt
  replace hG := hG.below l2 hG.lt
  replace hS := hS.below l2 hS.lt
  replace hR := hR.exc (Exc.of (b := gb) l2) (by omega) (by omega)
  replace hb := hb.trans (l2.mono hb.size)
  have zlw2 : lo ≤ w2.heap.size := by have := l2.size; omega
  refine opk 2 26 kk (frY rfl (k_move rfl (kk.e 28 rfl))) ?_; clear kk; intro a kk
  refine opk 3 29 (v := .string ⟨((Lib.cut ((Rfc.spl s 59)[i]) [61]).1).toArray⟩) kk (frY rfl (k_extract rfl (kk.e 26 rfl) rfl)) ?_; clear kk; intro a kk
  refine opk 4 30 (v := .string ⟨((Lib.cut ((Rfc.spl s 59)[i]) [61]).2.1).toArray⟩) kk (frY rfl (k_extract rfl (kk.e 26 rfl) rfl)) ?_; clear kk; intro a kk
  refine opk 5 31 (v := .bool true) kk (frY rfl (k_extract rfl (kk.e 26 rfl) rfl)) ?_; clear kk; intro a kk
  refine opk 6 8 kk (frY rfl (k_assign rfl (kk.e 29 rfl))) ?_; clear kk; intro a kk
  refine opk 7 9 kk (frY rfl (k_assign rfl (kk.e 30 rfl))) ?_; clear kk; intro a kk
  refine opk 8 10 kk (frY rfl (k_assign rfl (kk.e 31 rfl))) ?_; clear kk; intro a kk
  refine wp_seq ?_
  refine wpr 7 ?_
  refine opk 0 33 kk (frY rfl (k_move rfl (kk.e 8 rfl))) ?_; clear kk; intro a kk
  have hc := po_any (Lib.cut ((Rfc.spl s 59)[i]) [61]).1 w2 (hT.below hb)
  refine opkc 1 34 kk hc (frY rfl (c_partOf rfl rfl (kk.e 33 rfl))) ?_; clear kk hc
  rintro _ w3 a ⟨rfl, l3⟩ F0
  rw [hk] at F0
  have kk := F0; clear F0
  replace Q2 := Q2.below l3 Q2.lt
  replace hG := hG.below l3 hG.lt
  replace hS := hS.below l3 hS.lt
  replace hR := hR.exc (Exc.of (b := gb) l3) (by omega) (by omega)
  replace hb := hb.trans (l3.mono hb.size)
  have zlw3 : lo ≤ w3.heap.size := by have := l3.size; omega
  refine opk 2 32 kk (frY rfl (k_move rfl (kk.e 34 rfl))) ?_; clear kk; intro a kk
  refine opk 3 35 (v := .int .i64 p) kk (frY rfl (k_extract rfl (kk.e 32 rfl) rfl)) ?_; clear kk; intro a kk
  refine opk 4 36 (v := .bool true) kk (frY rfl (k_extract rfl (kk.e 32 rfl) rfl)) ?_; clear kk; intro a kk
  refine opk 5 11 kk (frY rfl (k_assign rfl (kk.e 35 rfl))) ?_; clear kk; intro a kk
  refine opk 6 12 kk (frY rfl (k_assign rfl (kk.e 36 rfl))) ?_; clear kk; intro a kk
  refine wp_seq ?_
  refine wp_seq ?_
  refine wpr 6 ?_
  refine opk 0 37 kk (frY rfl (k_move rfl (kk.e 10 rfl))) ?_; clear kk; intro a kk
  refine opk 1 38 (v := .bool false) kk (frY rfl (o_not rfl (kk.e 37 rfl) rfl)) ?_; clear kk; intro a kk
  refine opk 2 39 kk (frY rfl (k_move rfl (kk.e 38 rfl))) ?_; clear kk; intro a kk
  refine opk 3 40 kk (frY (wanted_at (b := false) (want := false) rfl (by kernel_rfl) (kk.g 39 rfl)) (k_move rfl (kk.e 12 rfl))) ?_; clear kk; intro a kk
  refine opk 4 41 (v := .bool false) kk (frY (wanted_at (b := false) (want := false) rfl (by kernel_rfl) (kk.g 39 rfl)) (o_not rfl (kk.e 40 rfl) rfl)) ?_; clear kk; intro a kk
  refine opk 5 42 (v := .bool false) kk (frY rfl (k_pick_no rfl (kk.e 39 rfl) (kk.e 41 rfl))) ?_; clear kk; intro a kk
  refine wp_cond_false (kk.e 42 rfl) ?_
  refine wp_skip ?_
  refine wp_seq ?_
  refine wp_seq ?_
  refine wpr 3 ?_
  refine opk 0 44 kk (frY rfl (k_move rfl (kk.e 11 rfl))) ?_; clear kk; intro a kk
  refine opk 1 45 (v := .pointer (some ⟨gb, p, none⟩)) kk (frY rfl (k_atG rfl (kk.e 5 rfl) (kk.e 44 rfl) hp)) ?_; clear kk; intro a kk
  refine opk 2 46 (v := .bool true) kk (frY rfl (k_loadBool rfl (kk.e 45 rfl) (hgc0 _ hG))) ?_; clear kk; intro a kk
  refine wp_cond_true (kk.e 46 rfl) ?_
  refine wp_seq ?_
  refine wpr 3 ?_
  refine opk 0 47 (v := .agg #[.int .i64 0, .int .i64 0, .int .i64 0, .int .i64 0, .slice none 0 0, .slice none 0 0, .slice none 0 0, .slice none 0 0]) kk (frY rfl (k_buildR0 rfl)) ?_; clear kk; intro a kk
  refine opL_store 1 (w' := (w3.setRow w.heap.size #[.int .i64 0, .int .i64 0, .int .i64 0, .int .i64 0, .slice none 0 0, .slice none 0 0, .slice none 0 0, .slice none 0 0])) (by kernel_rfl) ?_ ?_
  · exact frY rfl (k_storeR rfl (kk.e 2 rfl) (kk.e 47 rfl) Q2 rfl rfl (by simp [Value.oneCell']))
  have Qe := Q2.setRow (cs := #[.int .i64 0, .int .i64 0, .int .i64 0, .int .i64 0, .slice none 0 0, .slice none 0 0, .slice none 0 0, .slice none 0 0])
  have le := (exc_setRow w3 w.heap.size #[.int .i64 0, .int .i64 0, .int .i64 0, .int .i64 0, .slice none 0 0, .slice none 0 0, .slice none 0 0, .slice none 0 0] w.heap.size).below (Nat.le_refl _)
  refine opk 2 3 (v := .int .i64 5) (w' := (w3.setRow w.heap.size #[.int .i64 0, .int .i64 0, .int .i64 0, .int .i64 0, .slice none 0 0, .slice none 0 0, .slice none 0 0, .slice none 0 0])) kk (frY rfl (k_assign rfl rfl)) ?_; clear kk; intro a kk
  refine wp_ret ?_
  exact hfin a _ 5 kk.d (kk.g 2 rfl) Qe (kk.g 3 rfl) (by rw [hm, estep]) (hb.trans le)

set_option maxRecDepth 100000 in
set_option maxHeartbeats 2000000 in
theorem pa_badval (w : World) (rb gb sb lo : Nat) (s : List UInt8) (hT : Tabs w) (hl : s.length ≤ 4096) (i : Nat) (r : Rfc.Ru) (g : List Bool) (a : Act) (wx : World) (Q : Exit → Act → World → Prop) (J : LpQ w rb gb sb lo s i r g a wx) (hlt : i < (Rfc.spl s 59).length) (hf : (Lib.cut ((Rfc.spl s 59)[i]) [61]).2.2 = true) (p : Nat) (hk : Rfc.part (Lib.cut ((Rfc.spl s 59)[i]) [61]).1 = some p) (hgp : g.getD p false = false) (hv : Rfc.setF p (Lib.cut ((Rfc.spl s 59)[i]) [61]).2.1 r = none) (hfin : ∀ (a' : Act) (w' : World) (n : Int), a'.defers = [] → a'.tmps.getD 2 undef = .pointer (some ⟨w.heap.size, 0, none⟩) → Blk w' w.heap.size 28 #[.int .i64 0, .int .i64 0, .int .i64 0, .int .i64 0, .slice none 0 0, .slice none 0 0, .slice none 0 0, .slice none 0 0] → a'.tmps.getD 3 undef = .int .i64 n → Rfc.runP (Rfc.spl s 59) (⟨0, 1, 0, 0, [], [], [], []⟩ : Rfc.Ru) (List.replicate 8 false) = .bad n → Below w.heap.size w w' → Q .ret a' w') :
    paRound.wp Tryz.prog (Exit.then (fun a' w' => (∃ i r g, LpQ w rb gb sb lo s i r g a' w') ∧ ((Rfc.spl s 59).length - intOf (a'.tmps.getD 22 undef)).toNat < ((Rfc.spl s 59).length - intOf (a.tmps.getD 22 undef)).toNat) Q) a wx := by
  obtain ⟨hd, hs, h2, h4, h5, h20, h21, h22, hi, hm, g8, Q2, hR, hG, hS, oo, hb⟩ := J
  have kk := ((((((kn hs hd).p h2).p h4).p h5).p h20).p h21).p h22; clear hs hd h2 h4 h5 h20 h21 h22
  have hpl : ((Rfc.spl s 59)[i]).length ≤ 100000 := Nat.le_trans (piece_le _ s 59 _ (List.getElem_mem hlt)) (by omega)
  have hcell : wx.cell? ⟨sb, i, none⟩ = some (.string ⟨(((Rfc.spl s 59)[i])).toArray⟩) := by rw [hS.cell i]; simp [hlt]
  have hspl : (Rfc.spl s 59).length ≤ 100001 := by
    rw [spl_len]
    have := Lib.countB_le ⟨#[59]⟩ (Nat.le_refl 1) _ ⟨s.toArray⟩ (Nat.le_refl _)
    rw [ba_size] at this
    omega
  have estep : Rfc.runP ((Rfc.spl s 59).drop i) r g = .bad 1 := by
    have e : Rfc.stepP ((Rfc.spl s 59)[i]) r g = .bad 1 := by
      unfold Rfc.stepP
      rw [if_neg (by rw [hf]; decide), hk]; simp only []; rw [if_neg (by rw [hgp]; decide), hv]
    rw [List.drop_eq_getElem_cons hlt, Rfc.runP, e]
  have hp := Rfc.part_lt hk
  have hgc0 : ∀ wz : World, Blk wz gb 51 (g.map Value.bool).toArray → wz.cell? ⟨gb, p, none⟩ = some (.bool false) := fun wz hz => by
    rw [hz.cell p]
    have : p < g.length := by omega
    simp [this] at hgp ⊢
    exact hgp
  have e22 := (kk.g 22 rfl)
  rw [e22]
  clear e22
  unfold paRound
  conv => arg 2; whnf
  refine wp_seq ?_
  refine wpr 1 ?_
  refine opk 0 23 (v := .bool true) kk (frY rfl (o_ltI rfl (kk.e 22 rfl) (kk.e 21 rfl) (decide_eq_true (by omega)))) ?_; clear kk; intro a kk
  refine wp_seq ?_
  refine wp_cond_true (kk.e 23 rfl) ?_
  refine wp_skip ?_
  refine wp_seq ?_
  refine wp_block ?_
  refine wp_seq ?_
  refine wpr 3 ?_
  refine opk 0 24 (v := .pointer (some ⟨sb, i, none⟩)) kk (frY rfl (k_atS' rfl (kk.e 20 rfl) (kk.e 22 rfl) hlt)) ?_; clear kk; intro a kk
  refine opk 1 25 (v := .string ⟨(((Rfc.spl s 59)[i])).toArray⟩) kk (frY rfl (k_loadStr rfl (kk.e 24 rfl) hcell)) ?_; clear kk; intro a kk
  refine opk 2 7 kk (frY rfl (k_assign rfl (kk.e 25 rfl))) ?_; clear kk; intro a kk
  refine wp_seq ?_
  refine wpr 9 ?_
  refine opk 0 27 kk (frY rfl (k_move rfl (kk.e 7 rfl))) ?_; clear kk; intro a kk
  have hc := cut_any ((Rfc.spl s 59)[i]) wx (hT.below hb) hpl
  refine opkc 1 28 kk hc (frY rfl (c_Cut rfl rfl (kk.e 27 rfl) rfl)) ?_; clear kk hc
  rintro _ w2 a ⟨rfl, l2⟩ F0
  rw [hf] at F0
  have kk := F0; clear F0
  replace Q2 := Q2.below l2 Q2.lt
  replace hG := hG.below l2 hG.lt
  replace hS := hS.below l2 hS.lt
  replace hR := hR.exc (Exc.of (b := gb) l2) (by omega) (by omega)
  replace hb := hb.trans (l2.mono hb.size)
  have zlw2 : lo ≤ w2.heap.size := by have := l2.size; omega
  refine opk 2 26 kk (frY rfl (k_move rfl (kk.e 28 rfl))) ?_; clear kk; intro a kk
  refine opk 3 29 (v := .string ⟨((Lib.cut ((Rfc.spl s 59)[i]) [61]).1).toArray⟩) kk (frY rfl (k_extract rfl (kk.e 26 rfl) rfl)) ?_; clear kk; intro a kk
  refine opk 4 30 (v := .string ⟨((Lib.cut ((Rfc.spl s 59)[i]) [61]).2.1).toArray⟩) kk (frY rfl (k_extract rfl (kk.e 26 rfl) rfl)) ?_; clear kk; intro a kk
  refine opk 5 31 (v := .bool true) kk (frY rfl (k_extract rfl (kk.e 26 rfl) rfl)) ?_; clear kk; intro a kk
  refine opk 6 8 kk (frY rfl (k_assign rfl (kk.e 29 rfl))) ?_; clear kk; intro a kk
  refine opk 7 9 kk (frY rfl (k_assign rfl (kk.e 30 rfl))) ?_; clear kk; intro a kk
  refine opk 8 10 kk (frY rfl (k_assign rfl (kk.e 31 rfl))) ?_; clear kk; intro a kk
  refine wp_seq ?_
  refine wpr 7 ?_
  refine opk 0 33 kk (frY rfl (k_move rfl (kk.e 8 rfl))) ?_; clear kk; intro a kk
  have hc := po_any (Lib.cut ((Rfc.spl s 59)[i]) [61]).1 w2 (hT.below hb)
  refine opkc 1 34 kk hc (frY rfl (c_partOf rfl rfl (kk.e 33 rfl))) ?_; clear kk hc
  rintro _ w3 a ⟨rfl, l3⟩ F0
  rw [hk] at F0
  have kk := F0; clear F0
  replace Q2 := Q2.below l3 Q2.lt
  replace hG := hG.below l3 hG.lt
  replace hS := hS.below l3 hS.lt
  replace hR := hR.exc (Exc.of (b := gb) l3) (by omega) (by omega)
  replace hb := hb.trans (l3.mono hb.size)
  have zlw3 : lo ≤ w3.heap.size := by have := l3.size; omega
  refine opk 2 32 kk (frY rfl (k_move rfl (kk.e 34 rfl))) ?_; clear kk; intro a kk
  refine opk 3 35 (v := .int .i64 p) kk (frY rfl (k_extract rfl (kk.e 32 rfl) rfl)) ?_; clear kk; intro a kk
  refine opk 4 36 (v := .bool true) kk (frY rfl (k_extract rfl (kk.e 32 rfl) rfl)) ?_; clear kk; intro a kk
  refine opk 5 11 kk (frY rfl (k_assign rfl (kk.e 35 rfl))) ?_; clear kk; intro a kk
  refine opk 6 12 kk (frY rfl (k_assign rfl (kk.e 36 rfl))) ?_; clear kk; intro a kk
  refine wp_seq ?_
  refine wp_seq ?_
  refine wpr 6 ?_
  refine opk 0 37 kk (frY rfl (k_move rfl (kk.e 10 rfl))) ?_; clear kk; intro a kk
  refine opk 1 38 (v := .bool false) kk (frY rfl (o_not rfl (kk.e 37 rfl) rfl)) ?_; clear kk; intro a kk
  refine opk 2 39 kk (frY rfl (k_move rfl (kk.e 38 rfl))) ?_; clear kk; intro a kk
  refine opk 3 40 kk (frY (wanted_at (b := false) (want := false) rfl (by kernel_rfl) (kk.g 39 rfl)) (k_move rfl (kk.e 12 rfl))) ?_; clear kk; intro a kk
  refine opk 4 41 (v := .bool false) kk (frY (wanted_at (b := false) (want := false) rfl (by kernel_rfl) (kk.g 39 rfl)) (o_not rfl (kk.e 40 rfl) rfl)) ?_; clear kk; intro a kk
  refine opk 5 42 (v := .bool false) kk (frY rfl (k_pick_no rfl (kk.e 39 rfl) (kk.e 41 rfl))) ?_; clear kk; intro a kk
  refine wp_cond_false (kk.e 42 rfl) ?_
  refine wp_skip ?_
  refine wp_seq ?_
  refine wp_seq ?_
  refine wpr 3 ?_
  refine opk 0 44 kk (frY rfl (k_move rfl (kk.e 11 rfl))) ?_; clear kk; intro a kk
  refine opk 1 45 (v := .pointer (some ⟨gb, p, none⟩)) kk (frY rfl (k_atG rfl (kk.e 5 rfl) (kk.e 44 rfl) hp)) ?_; clear kk; intro a kk
  refine opk 2 46 (v := .bool false) kk (frY rfl (k_loadBool rfl (kk.e 45 rfl) (hgc0 _ hG))) ?_; clear kk; intro a kk
  refine wp_cond_false (kk.e 46 rfl) ?_
  refine wp_skip ?_
  refine wp_seq ?_
  refine wpr 3 ?_
  refine opk 0 48 kk (frY rfl (k_move rfl (kk.e 11 rfl))) ?_; clear kk; intro a kk
  refine opk 1 49 (v := .pointer (some ⟨gb, p, none⟩)) kk (frY rfl (k_atG rfl (kk.e 5 rfl) (kk.e 48 rfl) hp)) ?_; clear kk; intro a kk
  refine opL_store 2 (w' := (w3.setCell ⟨gb, p, none⟩ (.bool true))) (by kernel_rfl) ?_ ?_
  · exact frY rfl (k_storeBool rfl (kk.e 49 rfl) rfl hG (by simp [g8]; omega))
  obtain ⟨w4, hw4⟩ : ∃ wn, wn = w3.setCell ⟨gb, p, none⟩ (.bool true) := ⟨_, rfl⟩
  rw [← hw4]
  have hG4 : Blk w4 gb 51 ((g.set p true).map Value.bool).toArray := by rw [hw4]; have := hG.set p (.bool true); rw [show ((g.map Value.bool).toArray).setIfInBounds p (.bool true) = ((g.set p true).map Value.bool).toArray by simp [List.map_set]] at this; exact this
  have e4 : ∀ B, Exc B gb w3 w4 := by rw [hw4]; exact exc_set w3 gb p _
  clear hw4
  replace Q2 := Q2.exc (e4 w3.heap.size) Q2.lt (by omega)
  replace hS := hS.exc (e4 w3.heap.size) hS.lt (by omega)
  replace hR := hR.exc (e4 w3.heap.size) (by omega) (by omega)
  replace hb := hb.trans ((e4 w.heap.size).below (by omega))
  have zl4 : lo ≤ w4.heap.size := Nat.le_trans zlw3 (e4 0).size
  refine wp_seq ?_
  refine wpr 4 ?_
  refine opk 0 50 kk (frY rfl (k_move rfl (kk.e 11 rfl))) ?_; clear kk; intro a kk
  refine opk 1 51 kk (frY rfl (k_move rfl (kk.e 9 rfl))) ?_; clear kk; intro a kk
  have hc := sv_any p hp rb lo r (Lib.cut ((Rfc.spl s 59)[i]) [61]).2.1 w4 (hT.below hb) (Nat.le_trans (cut_le _) hpl) hR ⟨by omega, zl4⟩
  refine opkc 2 52 kk hc (frY rfl (c_pVal rfl rfl (kk.e 4 rfl) (kk.e 50 rfl) (kk.e 51 rfl))) ?_; clear kk hc
  rintro _ w5 a ⟨rfl, hRn, -, e5⟩ F0
  rw [hv] at F0
  have kk := F0; clear F0
  replace Q2 := Q2.exc e5 Q2.lt (by omega)
  have hS5 := hS.exc e5 hS.lt (by omega)
  have hG5 := hG4.exc e5 hG4.lt (by omega)
  have hb5 := hb.trans ((e5.mono (B := w.heap.size) (by omega)).below (by omega))
  have zl5 : lo ≤ w5.heap.size := Nat.le_trans zl4 e5.size
  refine opk 3 53 (v := .bool true) kk (frY rfl (o_not rfl (kk.e 52 rfl) rfl)) ?_; clear kk; intro a kk
  refine wp_cond_true (kk.e 53 rfl) ?_
  refine wp_seq ?_
  refine wpr 3 ?_
  refine opk 0 54 (v := .agg #[.int .i64 0, .int .i64 0, .int .i64 0, .int .i64 0, .slice none 0 0, .slice none 0 0, .slice none 0 0, .slice none 0 0]) kk (frY rfl (k_buildR0 rfl)) ?_; clear kk; intro a kk
  refine opL_store 1 (w' := (w5.setRow w.heap.size #[.int .i64 0, .int .i64 0, .int .i64 0, .int .i64 0, .slice none 0 0, .slice none 0 0, .slice none 0 0, .slice none 0 0])) (by kernel_rfl) ?_ ?_
  · exact frY rfl (k_storeR rfl (kk.e 2 rfl) (kk.e 54 rfl) Q2 rfl rfl (by simp [Value.oneCell']))
  have Qe := Q2.setRow (cs := #[.int .i64 0, .int .i64 0, .int .i64 0, .int .i64 0, .slice none 0 0, .slice none 0 0, .slice none 0 0, .slice none 0 0])
  have le := (exc_setRow w5 w.heap.size #[.int .i64 0, .int .i64 0, .int .i64 0, .int .i64 0, .slice none 0 0, .slice none 0 0, .slice none 0 0, .slice none 0 0] w.heap.size).below (Nat.le_refl _)
  refine opk 2 3 (v := .int .i64 1) (w' := (w5.setRow w.heap.size #[.int .i64 0, .int .i64 0, .int .i64 0, .int .i64 0, .slice none 0 0, .slice none 0 0, .slice none 0 0, .slice none 0 0])) kk (frY rfl (k_assign rfl rfl)) ?_; clear kk; intro a kk
  refine wp_ret ?_
  exact hfin a _ 1 kk.d (kk.g 2 rfl) Qe (kk.g 3 rfl) (by rw [hm, estep]) (hb5.trans le)

set_option maxRecDepth 100000 in
set_option maxHeartbeats 2000000 in
theorem pa_ok (w : World) (rb gb sb lo : Nat) (s : List UInt8) (hT : Tabs w) (hl : s.length ≤ 4096) (i : Nat) (r : Rfc.Ru) (g : List Bool) (a : Act) (wx : World) (Q : Exit → Act → World → Prop) (J : LpQ w rb gb sb lo s i r g a wx) (hlt : i < (Rfc.spl s 59).length) (hf : (Lib.cut ((Rfc.spl s 59)[i]) [61]).2.2 = true) (p : Nat) (hk : Rfc.part (Lib.cut ((Rfc.spl s 59)[i]) [61]).1 = some p) (hgp : g.getD p false = false) (r' : Rfc.Ru) (hv : Rfc.setF p (Lib.cut ((Rfc.spl s 59)[i]) [61]).2.1 r = some r') :
    paRound.wp Tryz.prog (Exit.then (fun a' w' => (∃ i r g, LpQ w rb gb sb lo s i r g a' w') ∧ ((Rfc.spl s 59).length - intOf (a'.tmps.getD 22 undef)).toNat < ((Rfc.spl s 59).length - intOf (a.tmps.getD 22 undef)).toNat) Q) a wx := by
  obtain ⟨hd, hs, h2, h4, h5, h20, h21, h22, hi, hm, g8, Q2, hR, hG, hS, oo, hb⟩ := J
  have kk := ((((((kn hs hd).p h2).p h4).p h5).p h20).p h21).p h22; clear hs hd h2 h4 h5 h20 h21 h22
  have hpl : ((Rfc.spl s 59)[i]).length ≤ 100000 := Nat.le_trans (piece_le _ s 59 _ (List.getElem_mem hlt)) (by omega)
  have hcell : wx.cell? ⟨sb, i, none⟩ = some (.string ⟨(((Rfc.spl s 59)[i])).toArray⟩) := by rw [hS.cell i]; simp [hlt]
  have hspl : (Rfc.spl s 59).length ≤ 100001 := by
    rw [spl_len]
    have := Lib.countB_le ⟨#[59]⟩ (Nat.le_refl 1) _ ⟨s.toArray⟩ (Nat.le_refl _)
    rw [ba_size] at this
    omega
  have estep : Rfc.runP ((Rfc.spl s 59).drop i) r g = Rfc.runP ((Rfc.spl s 59).drop (i + 1)) r' (g.set p true) := by
    have e : Rfc.stepP ((Rfc.spl s 59)[i]) r g = .go r' (g.set p true) := by
      unfold Rfc.stepP
      rw [if_neg (by rw [hf]; decide), hk]; simp only []; rw [if_neg (by rw [hgp]; decide), hv]
    rw [List.drop_eq_getElem_cons hlt, Rfc.runP, e]
  have hp := Rfc.part_lt hk
  have hgc0 : ∀ wz : World, Blk wz gb 51 (g.map Value.bool).toArray → wz.cell? ⟨gb, p, none⟩ = some (.bool false) := fun wz hz => by
    rw [hz.cell p]
    have : p < g.length := by omega
    simp [this] at hgp ⊢
    exact hgp
  have e22 := (kk.g 22 rfl)
  rw [e22]
  clear e22
  unfold paRound
  conv => arg 2; whnf
  refine wp_seq ?_
  refine wpr 1 ?_
  refine opk 0 23 (v := .bool true) kk (frY rfl (o_ltI rfl (kk.e 22 rfl) (kk.e 21 rfl) (decide_eq_true (by omega)))) ?_; clear kk; intro a kk
  refine wp_seq ?_
  refine wp_cond_true (kk.e 23 rfl) ?_
  refine wp_skip ?_
  refine wp_seq ?_
  refine wp_block ?_
  refine wp_seq ?_
  refine wpr 3 ?_
  refine opk 0 24 (v := .pointer (some ⟨sb, i, none⟩)) kk (frY rfl (k_atS' rfl (kk.e 20 rfl) (kk.e 22 rfl) hlt)) ?_; clear kk; intro a kk
  refine opk 1 25 (v := .string ⟨(((Rfc.spl s 59)[i])).toArray⟩) kk (frY rfl (k_loadStr rfl (kk.e 24 rfl) hcell)) ?_; clear kk; intro a kk
  refine opk 2 7 kk (frY rfl (k_assign rfl (kk.e 25 rfl))) ?_; clear kk; intro a kk
  refine wp_seq ?_
  refine wpr 9 ?_
  refine opk 0 27 kk (frY rfl (k_move rfl (kk.e 7 rfl))) ?_; clear kk; intro a kk
  have hc := cut_any ((Rfc.spl s 59)[i]) wx (hT.below hb) hpl
  refine opkc 1 28 kk hc (frY rfl (c_Cut rfl rfl (kk.e 27 rfl) rfl)) ?_; clear kk hc
  rintro _ w2 a ⟨rfl, l2⟩ F0
  rw [hf] at F0
  have kk := F0; clear F0
  replace Q2 := Q2.below l2 Q2.lt
  replace hG := hG.below l2 hG.lt
  replace hS := hS.below l2 hS.lt
  replace hR := hR.exc (Exc.of (b := gb) l2) (by omega) (by omega)
  replace hb := hb.trans (l2.mono hb.size)
  have zlw2 : lo ≤ w2.heap.size := by have := l2.size; omega
  refine opk 2 26 kk (frY rfl (k_move rfl (kk.e 28 rfl))) ?_; clear kk; intro a kk
  refine opk 3 29 (v := .string ⟨((Lib.cut ((Rfc.spl s 59)[i]) [61]).1).toArray⟩) kk (frY rfl (k_extract rfl (kk.e 26 rfl) rfl)) ?_; clear kk; intro a kk
  refine opk 4 30 (v := .string ⟨((Lib.cut ((Rfc.spl s 59)[i]) [61]).2.1).toArray⟩) kk (frY rfl (k_extract rfl (kk.e 26 rfl) rfl)) ?_; clear kk; intro a kk
  refine opk 5 31 (v := .bool true) kk (frY rfl (k_extract rfl (kk.e 26 rfl) rfl)) ?_; clear kk; intro a kk
  refine opk 6 8 kk (frY rfl (k_assign rfl (kk.e 29 rfl))) ?_; clear kk; intro a kk
  refine opk 7 9 kk (frY rfl (k_assign rfl (kk.e 30 rfl))) ?_; clear kk; intro a kk
  refine opk 8 10 kk (frY rfl (k_assign rfl (kk.e 31 rfl))) ?_; clear kk; intro a kk
  refine wp_seq ?_
  refine wpr 7 ?_
  refine opk 0 33 kk (frY rfl (k_move rfl (kk.e 8 rfl))) ?_; clear kk; intro a kk
  have hc := po_any (Lib.cut ((Rfc.spl s 59)[i]) [61]).1 w2 (hT.below hb)
  refine opkc 1 34 kk hc (frY rfl (c_partOf rfl rfl (kk.e 33 rfl))) ?_; clear kk hc
  rintro _ w3 a ⟨rfl, l3⟩ F0
  rw [hk] at F0
  have kk := F0; clear F0
  replace Q2 := Q2.below l3 Q2.lt
  replace hG := hG.below l3 hG.lt
  replace hS := hS.below l3 hS.lt
  replace hR := hR.exc (Exc.of (b := gb) l3) (by omega) (by omega)
  replace hb := hb.trans (l3.mono hb.size)
  have zlw3 : lo ≤ w3.heap.size := by have := l3.size; omega
  refine opk 2 32 kk (frY rfl (k_move rfl (kk.e 34 rfl))) ?_; clear kk; intro a kk
  refine opk 3 35 (v := .int .i64 p) kk (frY rfl (k_extract rfl (kk.e 32 rfl) rfl)) ?_; clear kk; intro a kk
  refine opk 4 36 (v := .bool true) kk (frY rfl (k_extract rfl (kk.e 32 rfl) rfl)) ?_; clear kk; intro a kk
  refine opk 5 11 kk (frY rfl (k_assign rfl (kk.e 35 rfl))) ?_; clear kk; intro a kk
  refine opk 6 12 kk (frY rfl (k_assign rfl (kk.e 36 rfl))) ?_; clear kk; intro a kk
  refine wp_seq ?_
  refine wp_seq ?_
  refine wpr 6 ?_
  refine opk 0 37 kk (frY rfl (k_move rfl (kk.e 10 rfl))) ?_; clear kk; intro a kk
  refine opk 1 38 (v := .bool false) kk (frY rfl (o_not rfl (kk.e 37 rfl) rfl)) ?_; clear kk; intro a kk
  refine opk 2 39 kk (frY rfl (k_move rfl (kk.e 38 rfl))) ?_; clear kk; intro a kk
  refine opk 3 40 kk (frY (wanted_at (b := false) (want := false) rfl (by kernel_rfl) (kk.g 39 rfl)) (k_move rfl (kk.e 12 rfl))) ?_; clear kk; intro a kk
  refine opk 4 41 (v := .bool false) kk (frY (wanted_at (b := false) (want := false) rfl (by kernel_rfl) (kk.g 39 rfl)) (o_not rfl (kk.e 40 rfl) rfl)) ?_; clear kk; intro a kk
  refine opk 5 42 (v := .bool false) kk (frY rfl (k_pick_no rfl (kk.e 39 rfl) (kk.e 41 rfl))) ?_; clear kk; intro a kk
  refine wp_cond_false (kk.e 42 rfl) ?_
  refine wp_skip ?_
  refine wp_seq ?_
  refine wp_seq ?_
  refine wpr 3 ?_
  refine opk 0 44 kk (frY rfl (k_move rfl (kk.e 11 rfl))) ?_; clear kk; intro a kk
  refine opk 1 45 (v := .pointer (some ⟨gb, p, none⟩)) kk (frY rfl (k_atG rfl (kk.e 5 rfl) (kk.e 44 rfl) hp)) ?_; clear kk; intro a kk
  refine opk 2 46 (v := .bool false) kk (frY rfl (k_loadBool rfl (kk.e 45 rfl) (hgc0 _ hG))) ?_; clear kk; intro a kk
  refine wp_cond_false (kk.e 46 rfl) ?_
  refine wp_skip ?_
  refine wp_seq ?_
  refine wpr 3 ?_
  refine opk 0 48 kk (frY rfl (k_move rfl (kk.e 11 rfl))) ?_; clear kk; intro a kk
  refine opk 1 49 (v := .pointer (some ⟨gb, p, none⟩)) kk (frY rfl (k_atG rfl (kk.e 5 rfl) (kk.e 48 rfl) hp)) ?_; clear kk; intro a kk
  refine opL_store 2 (w' := (w3.setCell ⟨gb, p, none⟩ (.bool true))) (by kernel_rfl) ?_ ?_
  · exact frY rfl (k_storeBool rfl (kk.e 49 rfl) rfl hG (by simp [g8]; omega))
  obtain ⟨w4, hw4⟩ : ∃ wn, wn = w3.setCell ⟨gb, p, none⟩ (.bool true) := ⟨_, rfl⟩
  rw [← hw4]
  have hG4 : Blk w4 gb 51 ((g.set p true).map Value.bool).toArray := by rw [hw4]; have := hG.set p (.bool true); rw [show ((g.map Value.bool).toArray).setIfInBounds p (.bool true) = ((g.set p true).map Value.bool).toArray by simp [List.map_set]] at this; exact this
  have e4 : ∀ B, Exc B gb w3 w4 := by rw [hw4]; exact exc_set w3 gb p _
  clear hw4
  replace Q2 := Q2.exc (e4 w3.heap.size) Q2.lt (by omega)
  replace hS := hS.exc (e4 w3.heap.size) hS.lt (by omega)
  replace hR := hR.exc (e4 w3.heap.size) (by omega) (by omega)
  replace hb := hb.trans ((e4 w.heap.size).below (by omega))
  have zl4 : lo ≤ w4.heap.size := Nat.le_trans zlw3 (e4 0).size
  refine wp_seq ?_
  refine wpr 4 ?_
  refine opk 0 50 kk (frY rfl (k_move rfl (kk.e 11 rfl))) ?_; clear kk; intro a kk
  refine opk 1 51 kk (frY rfl (k_move rfl (kk.e 9 rfl))) ?_; clear kk; intro a kk
  have hc := sv_any p hp rb lo r (Lib.cut ((Rfc.spl s 59)[i]) [61]).2.1 w4 (hT.below hb) (Nat.le_trans (cut_le _) hpl) hR ⟨by omega, zl4⟩
  refine opkc 2 52 kk hc (frY rfl (c_pVal rfl rfl (kk.e 4 rfl) (kk.e 50 rfl) (kk.e 51 rfl))) ?_; clear kk hc
  rintro _ w5 a ⟨rfl, hRn, -, e5⟩ F0
  rw [hv] at F0
  have kk := F0; clear F0
  replace Q2 := Q2.exc e5 Q2.lt (by omega)
  have hS5 := hS.exc e5 hS.lt (by omega)
  have hG5 := hG4.exc e5 hG4.lt (by omega)
  have hb5 := hb.trans ((e5.mono (B := w.heap.size) (by omega)).below (by omega))
  have zl5 : lo ≤ w5.heap.size := Nat.le_trans zl4 e5.size
  refine opk 3 53 (v := .bool false) kk (frY rfl (o_not rfl (kk.e 52 rfl) rfl)) ?_; clear kk; intro a kk
  refine wp_cond_false (kk.e 53 rfl) ?_
  refine wp_skip ?_
  refine wpr 2 ?_
  refine opk 0 55 (v := .int .i64 (i + 1 : Nat)) kk (frY rfl (o_addI rfl (kk.e 22 rfl) rfl (wrap_small (n := (i : Int) + 1) (by omega) (by omega)))) ?_; clear kk; intro a kk
  replace kk := kk.keep [55, 53, 46, 42, 12, 11, 10, 9, 8, 7, 23, 21, 20, 5, 4, 2] rfl
  refine opk 1 22 kk (frY rfl (k_move rfl (kk.e 55 rfl))) ?_; clear kk; intro a kk
  refine ⟨⟨i + 1, r', g.set p true, kk.d, kk.z, (kk.g 2 rfl), (kk.g 4 rfl), (kk.g 5 rfl), (kk.g 20 rfl), (kk.g 21 rfl), (kk.g 22 rfl), hlt, by rw [hm, estep], by simpa using g8, Q2, hRn r' hv, hG5, hS5, ⟨oo.1, oo.2.1, oo.2.2.1, oo.2.2.2.1, zl5⟩, hb5⟩, ?_⟩
  rw [(kk.g 22 rfl)]
  simp only [intOf]
  omega

set_option maxRecDepth 100000 in
set_option maxHeartbeats 1000000 in
theorem parse_long (s : List UInt8) (w : World) (hl : 4096 < s.length) :
    Calls Tryz.prog 6 #[.string ⟨s.toArray⟩] w fun e w' => ∃ v, e = .returned v ∧ Out w' (Rfc.parse s) v ∧ Below w.heap.size w w' := by
  refine calls_of_wp Tryz.func6 (show Tryz.f6.body = some paBody from rfl) ?_
  generalize hAA : (Act.mk (#[.string ⟨s.toArray⟩] ++ Array.replicate (Tryz.f6.ntmps - (#[.string ⟨s.toArray⟩] : Array Value).size) undef) []) = a
  have hs : a.tmps.size = 67 := by rw [← hAA]; simp [Tryz.ntmps6]
  have hd : a.defers = [] := by rw [← hAA]
  have h0 : a.tmps.getD 0 undef = .string ⟨s.toArray⟩ := by rw [← hAA]; simp
  clear hAA
  have kk := (kn hs hd).p h0; clear hs hd h0
  have hfin : ∀ (a' : Act) (w' : World) (n : Int), a'.defers = [] → a'.tmps.getD 2 undef = .pointer (some ⟨w.heap.size, 0, none⟩) → Blk w' w.heap.size 28 #[.int .i64 0, .int .i64 0, .int .i64 0, .int .i64 0, .slice none 0 0, .slice none 0 0, .slice none 0 0, .slice none 0 0] → a'.tmps.getD 3 undef = .int .i64 n → Rfc.parse s = .bad n → Below w.heap.size w w' → (bodyPost Tryz.prog Tryz.f6 fun e w' => ∃ v, e = .returned v ∧ Out w' (Rfc.parse s) v ∧ Below w.heap.size w w') .ret a' w' := by
    intro a' w' n k1 k2 k3 k4 k5 k6
    exact ⟨k1, _, results_parse k2 k3.rule k4, _, rfl, by rw [k5]; exact rfl, k6⟩
  have hyes : ∀ (a' : Act) (w' : World) (r : Rfc.Ru) (g : List Bool) (A1 A2 A3 A4 : Option Addr) (c1 c2 c3 c4 : Nat), a'.defers = [] → a'.tmps.getD 2 undef = .pointer (some ⟨w.heap.size, 0, none⟩) → Blk w' w.heap.size 28 #[.int .i64 r.f, .int .i64 r.iv, .int .i64 r.c, .int .i64 r.u, .slice A1 r.M.length c1, .slice A2 r.D.length c2, .slice A3 r.K.length c3, .slice A4 r.P.length c4] → a'.tmps.getD 3 undef = .int .i64 0 → Rfc.parse s = .go r g → PlainR w' A1 A2 A3 A4 r.M r.D r.K r.P → Rul.check r.f r.iv r.c r.u r.M r.D r.K r.P = 0 → Below w.heap.size w w' → (bodyPost Tryz.prog Tryz.f6 fun e w' => ∃ v, e = .returned v ∧ Out w' (Rfc.parse s) v ∧ Below w.heap.size w w') .ret a' w' := by
    intro a' w' r g A1 A2 A3 A4 c1 c2 c3 c4 k1 k2 k3 k4 k5 k6 k7 k8
    exact ⟨k1, _, results_parse k2 k3.rule k4, _, rfl, by rw [k5]; exact ⟨A1, A2, A3, A4, c1, c2, c3, c4, rfl, k6, k7⟩, k8⟩
  generalize (bodyPost Tryz.prog Tryz.f6 fun e w' => ∃ v, e = .returned v ∧ Out w' (Rfc.parse s) v ∧ Below w.heap.size w w') = Q at hfin hyes
  unfold paBody
  conv => arg 2; whnf
  refine wp_seq ?_
  refine wpr 2 ?_
  refine opk 0 2 (v := .pointer (some ⟨w.heap.size, 0, none⟩)) (w' := (w.alloc (.cells #[.int .i64 0, .int .i64 0, .int .i64 0, .int .i64 0, .slice none 0 0, .slice none 0 0, .slice none 0 0, .slice none 0 0] 28))) kk (frY rfl (k_allocR rfl)) ?_; clear kk; intro a kk
  obtain ⟨w1, hw1⟩ : ∃ wn, wn = w.alloc (.cells #[.int .i64 0, .int .i64 0, .int .i64 0, .int .i64 0, .slice none 0 0, .slice none 0 0, .slice none 0 0, .slice none 0 0] 28) := ⟨_, rfl⟩
  rw [← hw1]
  have q1 : Blk w1 w.heap.size 28 #[.int .i64 0, .int .i64 0, .int .i64 0, .int .i64 0, .slice none 0 0, .slice none 0 0, .slice none 0 0, .slice none 0 0] := by rw [hw1]; exact Blk.alloc _ _ _
  have l1 : Below w.heap.size w w1 := by rw [hw1]; exact (Below.refl _ _).alloc (Nat.le_refl _) _
  clear hw1
  refine opk 1 3 (v := .int .i64 0) kk (frY rfl (k_assign rfl rfl)) ?_; clear kk; intro a kk
  refine wp_seq ?_
  refine wp_seq ?_
  refine wpr 3 ?_
  refine opk 0 14 kk (frY rfl (k_move rfl (kk.e 0 rfl))) ?_; clear kk; intro a kk
  refine opk 1 15 (v := .int .i64 (⟨s.toArray⟩ : ByteArray).size) kk (frY rfl (k_lenT rfl (kk.e 14 rfl))) ?_; clear kk; intro a kk
  refine opk 2 16 (v := .bool true) kk (frY rfl (o_gtI rfl (kk.e 15 rfl) rfl (decide_eq_true (by rw [ba_size]; omega)))) ?_; clear kk; intro a kk
  refine wp_cond_true (kk.e 16 rfl) ?_
  refine wp_seq ?_
  refine wpr 3 ?_
  refine opk 0 17 (v := .agg #[.int .i64 0, .int .i64 0, .int .i64 0, .int .i64 0, .slice none 0 0, .slice none 0 0, .slice none 0 0, .slice none 0 0]) kk (frY rfl (k_buildR0 rfl)) ?_; clear kk; intro a kk
  refine opL_store 1 (w' := (w1.setRow w.heap.size #[.int .i64 0, .int .i64 0, .int .i64 0, .int .i64 0, .slice none 0 0, .slice none 0 0, .slice none 0 0, .slice none 0 0])) (by kernel_rfl) ?_ ?_
  · exact frY rfl (k_storeR rfl (kk.e 2 rfl) (kk.e 17 rfl) q1 rfl rfl (by simp [Value.oneCell']))
  have Qe := q1.setRow (cs := #[.int .i64 0, .int .i64 0, .int .i64 0, .int .i64 0, .slice none 0 0, .slice none 0 0, .slice none 0 0, .slice none 0 0])
  have le := (exc_setRow w1 w.heap.size #[.int .i64 0, .int .i64 0, .int .i64 0, .int .i64 0, .slice none 0 0, .slice none 0 0, .slice none 0 0, .slice none 0 0] w.heap.size).below (Nat.le_refl _)
  replace kk := kk.keep [16, 2, 0] rfl
  refine opk 2 3 (v := .int .i64 2) (w' := (w1.setRow w.heap.size #[.int .i64 0, .int .i64 0, .int .i64 0, .int .i64 0, .slice none 0 0, .slice none 0 0, .slice none 0 0, .slice none 0 0])) kk (frY rfl (k_assign rfl rfl)) ?_; clear kk; intro a kk
  refine wp_ret ?_
  exact hfin a _ 2 kk.d (kk.g 2 rfl) Qe (kk.g 3 rfl) (by unfold Rfc.parse; rw [if_pos hl]) (l1.trans le)

set_option maxRecDepth 100000 in
set_option maxHeartbeats 2000000 in
theorem parse_some (s : List UInt8) (w : World) (hT : Tabs w) (hl : s.length ≤ 4096) :
    Calls Tryz.prog 6 #[.string ⟨s.toArray⟩] w fun e w' => ∃ v, e = .returned v ∧ Out w' (Rfc.parse s) v ∧ Below w.heap.size w w' := by
  refine calls_of_wp Tryz.func6 (show Tryz.f6.body = some paBody from rfl) ?_
  generalize hAA : (Act.mk (#[.string ⟨s.toArray⟩] ++ Array.replicate (Tryz.f6.ntmps - (#[.string ⟨s.toArray⟩] : Array Value).size) undef) []) = a
  have hs : a.tmps.size = 67 := by rw [← hAA]; simp [Tryz.ntmps6]
  have hd : a.defers = [] := by rw [← hAA]
  have h0 : a.tmps.getD 0 undef = .string ⟨s.toArray⟩ := by rw [← hAA]; simp
  clear hAA
  have kk := (kn hs hd).p h0; clear hs hd h0
  have hfin : ∀ (a' : Act) (w' : World) (n : Int), a'.defers = [] → a'.tmps.getD 2 undef = .pointer (some ⟨w.heap.size, 0, none⟩) → Blk w' w.heap.size 28 #[.int .i64 0, .int .i64 0, .int .i64 0, .int .i64 0, .slice none 0 0, .slice none 0 0, .slice none 0 0, .slice none 0 0] → a'.tmps.getD 3 undef = .int .i64 n → Rfc.parse s = .bad n → Below w.heap.size w w' → (bodyPost Tryz.prog Tryz.f6 fun e w' => ∃ v, e = .returned v ∧ Out w' (Rfc.parse s) v ∧ Below w.heap.size w w') .ret a' w' := by
    intro a' w' n k1 k2 k3 k4 k5 k6
    exact ⟨k1, _, results_parse k2 k3.rule k4, _, rfl, by rw [k5]; exact rfl, k6⟩
  have hyes : ∀ (a' : Act) (w' : World) (r : Rfc.Ru) (g : List Bool) (A1 A2 A3 A4 : Option Addr) (c1 c2 c3 c4 : Nat), a'.defers = [] → a'.tmps.getD 2 undef = .pointer (some ⟨w.heap.size, 0, none⟩) → Blk w' w.heap.size 28 #[.int .i64 r.f, .int .i64 r.iv, .int .i64 r.c, .int .i64 r.u, .slice A1 r.M.length c1, .slice A2 r.D.length c2, .slice A3 r.K.length c3, .slice A4 r.P.length c4] → a'.tmps.getD 3 undef = .int .i64 0 → Rfc.parse s = .go r g → PlainR w' A1 A2 A3 A4 r.M r.D r.K r.P → Rul.check r.f r.iv r.c r.u r.M r.D r.K r.P = 0 → Below w.heap.size w w' → (bodyPost Tryz.prog Tryz.f6 fun e w' => ∃ v, e = .returned v ∧ Out w' (Rfc.parse s) v ∧ Below w.heap.size w w') .ret a' w' := by
    intro a' w' r g A1 A2 A3 A4 c1 c2 c3 c4 k1 k2 k3 k4 k5 k6 k7 k8
    exact ⟨k1, _, results_parse k2 k3.rule k4, _, rfl, by rw [k5]; exact ⟨A1, A2, A3, A4, c1, c2, c3, c4, rfl, k6, k7⟩, k8⟩
  generalize (bodyPost Tryz.prog Tryz.f6 fun e w' => ∃ v, e = .returned v ∧ Out w' (Rfc.parse s) v ∧ Below w.heap.size w w') = Q at hfin hyes
  unfold paBody
  conv => arg 2; whnf
  refine wp_seq ?_
  refine wpr 2 ?_
  refine opk 0 2 (v := .pointer (some ⟨w.heap.size, 0, none⟩)) (w' := (w.alloc (.cells #[.int .i64 0, .int .i64 0, .int .i64 0, .int .i64 0, .slice none 0 0, .slice none 0 0, .slice none 0 0, .slice none 0 0] 28))) kk (frY rfl (k_allocR rfl)) ?_; clear kk; intro a kk
  obtain ⟨w1, hw1⟩ : ∃ wn, wn = w.alloc (.cells #[.int .i64 0, .int .i64 0, .int .i64 0, .int .i64 0, .slice none 0 0, .slice none 0 0, .slice none 0 0, .slice none 0 0] 28) := ⟨_, rfl⟩
  rw [← hw1]
  have q1 : Blk w1 w.heap.size 28 #[.int .i64 0, .int .i64 0, .int .i64 0, .int .i64 0, .slice none 0 0, .slice none 0 0, .slice none 0 0, .slice none 0 0] := by rw [hw1]; exact Blk.alloc _ _ _
  have l1 : Below w.heap.size w w1 := by rw [hw1]; exact (Below.refl _ _).alloc (Nat.le_refl _) _
  clear hw1
  refine opk 1 3 (v := .int .i64 0) kk (frY rfl (k_assign rfl rfl)) ?_; clear kk; intro a kk
  refine wp_seq ?_
  refine wp_seq ?_
  refine wpr 3 ?_
  refine opk 0 14 kk (frY rfl (k_move rfl (kk.e 0 rfl))) ?_; clear kk; intro a kk
  refine opk 1 15 (v := .int .i64 (⟨s.toArray⟩ : ByteArray).size) kk (frY rfl (k_lenT rfl (kk.e 14 rfl))) ?_; clear kk; intro a kk
  refine opk 2 16 (v := .bool false) kk (frY rfl (o_gtI rfl (kk.e 15 rfl) rfl (decide_eq_false (by rw [ba_size]; omega)))) ?_; clear kk; intro a kk
  refine wp_cond_false (kk.e 16 rfl) ?_
  refine wp_skip ?_
  refine wp_seq ?_
  refine wpr 3 ?_
  refine opk 0 18 (v := .agg #[.int .i64 0, .int .i64 1, .int .i64 0, .int .i64 0, .slice none 0 0, .slice none 0 0, .slice none 0 0, .slice none 0 0]) kk (frY rfl (k_buildR1 rfl rfl)) ?_; clear kk; intro a kk
  refine opk 1 4 (v := .pointer (some ⟨w1.heap.size, 0, none⟩)) (w' := (w1.alloc (.cells #[.int .i64 0, .int .i64 0, .int .i64 0, .int .i64 0, .slice none 0 0, .slice none 0 0, .slice none 0 0, .slice none 0 0] 28))) kk (frY rfl (k_allocR rfl)) ?_; clear kk; intro a kk
  obtain ⟨w2, hw2⟩ : ∃ wn, wn = w1.alloc (.cells #[.int .i64 0, .int .i64 0, .int .i64 0, .int .i64 0, .slice none 0 0, .slice none 0 0, .slice none 0 0, .slice none 0 0] 28) := ⟨_, rfl⟩
  rw [← hw2]
  have q2 : Blk w2 w1.heap.size 28 #[.int .i64 0, .int .i64 0, .int .i64 0, .int .i64 0, .slice none 0 0, .slice none 0 0, .slice none 0 0, .slice none 0 0] := by rw [hw2]; exact Blk.alloc _ _ _
  have l2 : Below w1.heap.size w1 w2 := by rw [hw2]; exact (Below.refl _ _).alloc (Nat.le_refl _) _
  clear hw2
  have ha := q1.lt
  replace q1 := q1.below l2 q1.lt
  replace l1 := l1.trans (l2.mono l1.size)
  clear l2
  refine opL_store 2 (w' := (w2.setRow w1.heap.size #[.int .i64 0, .int .i64 1, .int .i64 0, .int .i64 0, .slice none 0 0, .slice none 0 0, .slice none 0 0, .slice none 0 0])) (by kernel_rfl) ?_ ?_
  · exact frY rfl (k_storeR rfl (kk.e 4 rfl) (kk.e 18 rfl) q2 rfl rfl (by simp [Value.oneCell']))
  obtain ⟨w3, hw3⟩ : ∃ wn, wn = w2.setRow w1.heap.size #[.int .i64 0, .int .i64 1, .int .i64 0, .int .i64 0, .slice none 0 0, .slice none 0 0, .slice none 0 0, .slice none 0 0] := ⟨_, rfl⟩
  rw [← hw3]
  have q3 : Blk w3 w1.heap.size 28 #[.int .i64 0, .int .i64 1, .int .i64 0, .int .i64 0, .slice none 0 0, .slice none 0 0, .slice none 0 0, .slice none 0 0] := by rw [hw3]; exact q2.setRow
  have e3 : ∀ B, Exc B w1.heap.size w2 w3 := by rw [hw3]; exact exc_setRow w2 w1.heap.size #[.int .i64 0, .int .i64 1, .int .i64 0, .int .i64 0, .slice none 0 0, .slice none 0 0, .slice none 0 0, .slice none 0 0]
  clear hw3 q2
  replace q1 := q1.exc (e3 w2.heap.size) q1.lt (by omega)
  replace l1 := l1.trans ((e3 w.heap.size).below (by omega))
  refine wp_seq ?_
  refine wpr 1 ?_
  refine opk 0 5 (v := .pointer (some ⟨w3.heap.size, 0, none⟩)) (w' := (w3.alloc (.cells #[.bool false, .bool false, .bool false, .bool false, .bool false, .bool false, .bool false, .bool false] 51))) kk (frY rfl (k_allocG rfl)) ?_; clear kk; intro a kk
  obtain ⟨w4, hw4⟩ : ∃ wn, wn = w3.alloc (.cells #[.bool false, .bool false, .bool false, .bool false, .bool false, .bool false, .bool false, .bool false] 51) := ⟨_, rfl⟩
  rw [← hw4]
  have q4 : Blk w4 w3.heap.size 51 #[.bool false, .bool false, .bool false, .bool false, .bool false, .bool false, .bool false, .bool false] := by rw [hw4]; exact Blk.alloc _ _ _
  have l4 : Below w3.heap.size w3 w4 := by rw [hw4]; exact (Below.refl _ _).alloc (Nat.le_refl _) _
  clear hw4
  have hb3 := q3.lt
  replace q1 := q1.below l4 q1.lt
  replace q3 := q3.below l4 q3.lt
  replace l1 := l1.trans (l4.mono l1.size)
  clear l4
  refine wp_seq ?_
  refine wp_seq ?_
  refine wpr 4 ?_
  refine opk 0 19 kk (frY rfl (k_move rfl (kk.e 0 rfl))) ?_; clear kk; intro a kk
  have hc := split_any s 59 w4 (hT.below l1) (by omega)
  refine opkc 1 20 kk hc (frY rfl (c_Split rfl rfl (kk.e 19 rfl) rfl)) ?_; clear kk hc
  rintro _ w5 a ⟨⟨rfl, q5⟩, l5⟩ F0
  have kk := F0; clear F0
  have hc4 := q4.lt
  have hc5 := q5.lt
  replace q1 := q1.below l5 q1.lt
  replace q3 := q3.below l5 q3.lt
  replace q4 := q4.below l5 q4.lt
  replace l1 := l1.trans (l5.mono l1.size)
  refine opk 2 21 (v := .int .i64 (Rfc.spl s 59).length) kk (frY rfl (k_lenStr rfl (kk.e 20 rfl))) ?_; clear kk; intro a kk
  refine opk 3 22 (v := .int .i64 0) kk (frY rfl (k_move rfl rfl)) ?_; clear kk; intro a kk
  refine wp_block ?_
  refine wp_loop (fun a wx => ∃ i r g, LpQ w w1.heap.size w3.heap.size w4.heap.size w5.heap.size s i r g a wx) (fun a _ => ((Rfc.spl s 59).length - intOf (a.tmps.getD 22 undef)).toNat) ⟨0, (⟨0, 1, 0, 0, [], [], [], []⟩ : Rfc.Ru), (List.replicate 8 false), ⟨kk.d, kk.z, (kk.g 2 rfl), (kk.g 4 rfl), (kk.g 5 rfl), (kk.g 20 rfl), (kk.g 21 rfl), (kk.g 22 rfl), Nat.zero_le _, rfl, rfl, q1, ⟨none, none, none, none, 0, 0, 0, 0, q3, InI.nil _ _, InI.nil _ _, InN.nil _ _, InI.nil _ _⟩, q4, q5, ⟨by omega, by omega, by omega, by omega, Nat.le_refl _⟩, l1⟩⟩ ?_
  clear kk q1 q3 q4 q5 l5 l1 a
  rintro a wx ⟨i, r, g, J⟩
  by_cases hlt : i < (Rfc.spl s 59).length
  · cases hf : (Lib.cut ((Rfc.spl s 59)[i]) [61]).2.2
    · exact pa_nofound w _ _ _ _ s hT hl i r g a wx _ J hlt hf (fun a' w' n k1 k2 k3 k4 k5 k6 => hfin a' w' n k1 k2 k3 k4 (by unfold Rfc.parse; rw [if_neg (by omega), k5]; rfl) k6)
    · cases hk : Rfc.part (Lib.cut ((Rfc.spl s 59)[i]) [61]).1 with
      | none => exact pa_unknown w _ _ _ _ s hT hl i r g a wx _ J hlt hf hk (fun a' w' n k1 k2 k3 k4 k5 k6 => hfin a' w' n k1 k2 k3 k4 (by unfold Rfc.parse; rw [if_neg (by omega), k5]; rfl) k6)
      | some p =>
        cases hgp : g.getD p false
        · cases hv : Rfc.setF p (Lib.cut ((Rfc.spl s 59)[i]) [61]).2.1 r with
          | none => exact pa_badval w _ _ _ _ s hT hl i r g a wx _ J hlt hf p hk hgp hv (fun a' w' n k1 k2 k3 k4 k5 k6 => hfin a' w' n k1 k2 k3 k4 (by unfold Rfc.parse; rw [if_neg (by omega), k5]; rfl) k6)
          | some r' => exact pa_ok w _ _ _ _ s hT hl i r g a wx _ J hlt hf p hk hgp r' hv
        · exact pa_twice w _ _ _ _ s hT hl i r g a wx _ J hlt hf p hk hgp (fun a' w' n k1 k2 k3 k4 k5 k6 => hfin a' w' n k1 k2 k3 k4 (by unfold Rfc.parse; rw [if_neg (by omega), k5]; rfl) k6)
  obtain ⟨hd, hs, h2, h4, h5, h20, h21, h22, hi, hm, g8, Q2, hR, hG, hS, oo, hb⟩ := J
  have kk := ((((((kn hs hd).p h2).p h4).p h5).p h20).p h21).p h22; clear hs hd h2 h4 h5 h20 h21 h22
  obtain rfl : i = (Rfc.spl s 59).length := by omega
  rw [List.drop_length] at hm
  clear hS
  refine wp_seq ?_
  refine wpr 1 ?_
  refine opk 0 23 (v := .bool false) kk (frY rfl (o_ltI rfl (kk.e 22 rfl) (kk.e 21 rfl) (decide_eq_false (by omega)))) ?_; clear kk; intro a kk
  refine wp_seq ?_
  refine wp_cond_false (kk.e 23 rfl) ?_
  refine wp_exit ?_
  change Code.wp _ _ _ _ _
  have hpe : Rfc.parse s = Rfc.endP (.go r g) := by unfold Rfc.parse; rw [if_neg (by omega), hm]; rfl
  obtain ⟨A1, A2, A3, A4, c1, c2, c3, c4, hB, i1, i2, i3, i4⟩ := hR
  have hPl : PlainR wx A1 A2 A3 A4 r.M r.D r.K r.P := ⟨i1.plain, i2.plain, i3.plain, i4.plain, i1.1, i2.1, i3.1, i4.1⟩
  have hg0 : wx.cell? ⟨w3.heap.size, 0, none⟩ = some (.bool (g.getD 0 false)) := by rw [hG.cell 0]; simp [g8]
  cases hgf : g.getD 0 false
  ·
    refine wp_seq ?_
    refine wp_seq ?_
    refine wpr 3 ?_
    refine opk 0 56 (v := .pointer (some ⟨w3.heap.size, 0, none⟩)) kk (frY rfl (k_atG (i := 0) rfl (kk.e 5 rfl) rfl (by omega))) ?_; clear kk; intro a kk
    refine opk 1 57 (v := .bool false) kk (frY rfl (k_loadBool rfl (kk.e 56 rfl) (by rw [hg0, hgf]))) ?_; clear kk; intro a kk
    refine opk 2 58 (v := .bool true) kk (frY rfl (o_not rfl (kk.e 57 rfl) rfl)) ?_; clear kk; intro a kk
    refine wp_cond_true (kk.e 58 rfl) ?_
    refine wp_seq ?_
    refine wpr 3 ?_
    refine opk 0 59 (v := .agg #[.int .i64 0, .int .i64 0, .int .i64 0, .int .i64 0, .slice none 0 0, .slice none 0 0, .slice none 0 0, .slice none 0 0]) kk (frY rfl (k_buildR0 rfl)) ?_; clear kk; intro a kk
    refine opL_store 1 (w' := (wx.setRow w.heap.size #[.int .i64 0, .int .i64 0, .int .i64 0, .int .i64 0, .slice none 0 0, .slice none 0 0, .slice none 0 0, .slice none 0 0])) (by kernel_rfl) ?_ ?_
    · exact frY rfl (k_storeR rfl (kk.e 2 rfl) (kk.e 59 rfl) Q2 rfl rfl (by simp [Value.oneCell']))
    have Qe := Q2.setRow (cs := #[.int .i64 0, .int .i64 0, .int .i64 0, .int .i64 0, .slice none 0 0, .slice none 0 0, .slice none 0 0, .slice none 0 0])
    have le := (exc_setRow wx w.heap.size #[.int .i64 0, .int .i64 0, .int .i64 0, .int .i64 0, .slice none 0 0, .slice none 0 0, .slice none 0 0, .slice none 0 0] w.heap.size).below (Nat.le_refl _)
    refine opk 2 3 (v := .int .i64 1) (w' := (wx.setRow w.heap.size #[.int .i64 0, .int .i64 0, .int .i64 0, .int .i64 0, .slice none 0 0, .slice none 0 0, .slice none 0 0, .slice none 0 0])) kk (frY rfl (k_assign rfl rfl)) ?_; clear kk; intro a kk
    refine wp_ret ?_
    exact hfin a _ 1 kk.d (kk.g 2 rfl) Qe (kk.g 3 rfl) (by rw [hpe]; unfold Rfc.endP; dsimp only; rw [if_pos hgf]) (hb.trans le)
  by_cases hck : Rul.check r.f r.iv r.c r.u r.M r.D r.K r.P = 0
  ·
    refine wp_seq ?_
    refine wp_seq ?_
    refine wpr 3 ?_
    refine opk 0 56 (v := .pointer (some ⟨w3.heap.size, 0, none⟩)) kk (frY rfl (k_atG (i := 0) rfl (kk.e 5 rfl) rfl (by omega))) ?_; clear kk; intro a kk
    refine opk 1 57 (v := .bool true) kk (frY rfl (k_loadBool rfl (kk.e 56 rfl) (by rw [hg0, hgf]))) ?_; clear kk; intro a kk
    refine opk 2 58 (v := .bool false) kk (frY rfl (o_not rfl (kk.e 57 rfl) rfl)) ?_; clear kk; intro a kk
    refine wp_cond_false (kk.e 58 rfl) ?_
    refine wp_skip ?_
    refine wp_seq ?_
    refine wp_seq ?_
    refine wpr 3 ?_
    refine opk 0 60 (v := .agg #[.int .i64 r.f, .int .i64 r.iv, .int .i64 r.c, .int .i64 r.u, .slice A1 r.M.length c1, .slice A2 r.D.length c2, .slice A3 r.K.length c3, .slice A4 r.P.length c4]) kk (frY rfl (k_loadR rfl (kk.e 4 rfl) hB.rule)) ?_; clear kk; intro a kk
    have hc := check_any'' r.f r.iv r.c r.u A1 A2 A3 A4 c1 c2 c3 c4 r.M r.D r.K r.P wx hPl.lists
    refine opkc 1 61 kk hc (frY rfl (k_callCheck rfl rfl (kk.e 60 rfl))) ?_; clear kk hc
    rintro _ w7 a ⟨rfl, l7⟩ F0
    rw [hck] at F0
    have kk := F0; clear F0
    have Q7 := Q2.below l7 Q2.lt
    have B7 := hB.below l7 hB.lt
    have P7 := hPl.below l7
    have b7 := hb.trans (l7.mono hb.size)
    refine opk 2 13 kk (frY rfl (k_assign rfl (kk.e 61 rfl))) ?_; clear kk; intro a kk
    refine wp_seq ?_
    refine wpr 2 ?_
    refine opk 0 62 kk (frY rfl (k_move rfl (kk.e 13 rfl))) ?_; clear kk; intro a kk
    refine opk 1 63 (v := .bool false) kk (frY rfl (o_neE rfl (kk.e 62 rfl) rfl rfl)) ?_; clear kk; intro a kk
    refine wp_cond_false (kk.e 63 rfl) ?_
    refine wp_skip ?_
    refine wp_seq ?_
    refine wpr 3 ?_
    refine opk 0 66 (v := .agg #[.int .i64 r.f, .int .i64 r.iv, .int .i64 r.c, .int .i64 r.u, .slice A1 r.M.length c1, .slice A2 r.D.length c2, .slice A3 r.K.length c3, .slice A4 r.P.length c4]) kk (frY rfl (k_loadR rfl (kk.e 4 rfl) B7.rule)) ?_; clear kk; intro a kk
    refine opL_store 1 (w' := (w7.setRow w.heap.size #[.int .i64 r.f, .int .i64 r.iv, .int .i64 r.c, .int .i64 r.u, .slice A1 r.M.length c1, .slice A2 r.D.length c2, .slice A3 r.K.length c3, .slice A4 r.P.length c4])) (by kernel_rfl) ?_ ?_
    · exact frY rfl (k_storeR rfl (kk.e 2 rfl) (kk.e 66 rfl) Q7 rfl rfl (by simp [Value.oneCell']))
    have Qe := Q7.setRow (cs := #[.int .i64 r.f, .int .i64 r.iv, .int .i64 r.c, .int .i64 r.u, .slice A1 r.M.length c1, .slice A2 r.D.length c2, .slice A3 r.K.length c3, .slice A4 r.P.length c4])
    have ee := exc_setRow w7 w.heap.size #[.int .i64 r.f, .int .i64 r.iv, .int .i64 r.c, .int .i64 r.u, .slice A1 r.M.length c1, .slice A2 r.D.length c2, .slice A3 r.K.length c3, .slice A4 r.P.length c4]
    have le := (ee w.heap.size).below (Nat.le_refl _)
    refine opk 2 3 (v := .int .i64 0) (w' := (w7.setRow w.heap.size #[.int .i64 r.f, .int .i64 r.iv, .int .i64 r.c, .int .i64 r.u, .slice A1 r.M.length c1, .slice A2 r.D.length c2, .slice A3 r.K.length c3, .slice A4 r.P.length c4])) kk (frY rfl (k_assign rfl rfl)) ?_; clear kk; intro a kk
    refine wp_ret ?_
    have i7 := (i1.exc (Exc.of (b := w.heap.size) l7) (by omega)).exc (ee w7.heap.size) (by omega)
    have j7 := (i2.exc (Exc.of (b := w.heap.size) l7) (by omega)).exc (ee w7.heap.size) (by omega)
    have k7 := (i3.exc (Exc.of (b := w.heap.size) l7) (by omega)).exc (ee w7.heap.size) (by omega)
    have m7 := (i4.exc (Exc.of (b := w.heap.size) l7) (by omega)).exc (ee w7.heap.size) (by omega)
    exact hyes a _ r g A1 A2 A3 A4 c1 c2 c3 c4 kk.d (kk.g 2 rfl) Qe (kk.g 3 rfl) (by rw [hpe]; unfold Rfc.endP; dsimp only; rw [if_neg (by rw [hgf]; decide), if_neg (by simpa using hck)]) ⟨i7.plain, j7.plain, k7.plain, m7.plain, i1.1, i2.1, i3.1, i4.1⟩ hck (b7.trans le)
  ·
    refine wp_seq ?_
    refine wp_seq ?_
    refine wpr 3 ?_
    refine opk 0 56 (v := .pointer (some ⟨w3.heap.size, 0, none⟩)) kk (frY rfl (k_atG (i := 0) rfl (kk.e 5 rfl) rfl (by omega))) ?_; clear kk; intro a kk
    refine opk 1 57 (v := .bool true) kk (frY rfl (k_loadBool rfl (kk.e 56 rfl) (by rw [hg0, hgf]))) ?_; clear kk; intro a kk
    refine opk 2 58 (v := .bool false) kk (frY rfl (o_not rfl (kk.e 57 rfl) rfl)) ?_; clear kk; intro a kk
    refine wp_cond_false (kk.e 58 rfl) ?_
    refine wp_skip ?_
    refine wp_seq ?_
    refine wp_seq ?_
    refine wpr 3 ?_
    refine opk 0 60 (v := .agg #[.int .i64 r.f, .int .i64 r.iv, .int .i64 r.c, .int .i64 r.u, .slice A1 r.M.length c1, .slice A2 r.D.length c2, .slice A3 r.K.length c3, .slice A4 r.P.length c4]) kk (frY rfl (k_loadR rfl (kk.e 4 rfl) hB.rule)) ?_; clear kk; intro a kk
    have hc := check_any'' r.f r.iv r.c r.u A1 A2 A3 A4 c1 c2 c3 c4 r.M r.D r.K r.P wx hPl.lists
    refine opkc 1 61 kk hc (frY rfl (k_callCheck rfl rfl (kk.e 60 rfl))) ?_; clear kk hc
    rintro _ w7 a ⟨rfl, l7⟩ F0
    have kk := F0; clear F0
    have Q7 := Q2.below l7 Q2.lt
    have B7 := hB.below l7 hB.lt
    have P7 := hPl.below l7
    have b7 := hb.trans (l7.mono hb.size)
    refine opk 2 13 kk (frY rfl (k_assign rfl (kk.e 61 rfl))) ?_; clear kk; intro a kk
    refine wp_seq ?_
    refine wpr 2 ?_
    refine opk 0 62 kk (frY rfl (k_move rfl (kk.e 13 rfl))) ?_; clear kk; intro a kk
    refine opk 1 63 (v := .bool true) kk (frY rfl (o_neE rfl (kk.e 62 rfl) rfl (by simpa using hck))) ?_; clear kk; intro a kk
    refine wp_cond_true (kk.e 63 rfl) ?_
    refine wp_seq ?_
    refine wpr 4 ?_
    refine opk 0 64 (v := .agg #[.int .i64 0, .int .i64 0, .int .i64 0, .int .i64 0, .slice none 0 0, .slice none 0 0, .slice none 0 0, .slice none 0 0]) kk (frY rfl (k_buildR0 rfl)) ?_; clear kk; intro a kk
    refine opk 1 65 kk (frY rfl (k_move rfl (kk.e 13 rfl))) ?_; clear kk; intro a kk
    refine opL_store 2 (w' := (w7.setRow w.heap.size #[.int .i64 0, .int .i64 0, .int .i64 0, .int .i64 0, .slice none 0 0, .slice none 0 0, .slice none 0 0, .slice none 0 0])) (by kernel_rfl) ?_ ?_
    · exact frY rfl (k_storeR rfl (kk.e 2 rfl) (kk.e 64 rfl) Q7 rfl rfl (by simp [Value.oneCell']))
    have Qe := Q7.setRow (cs := #[.int .i64 0, .int .i64 0, .int .i64 0, .int .i64 0, .slice none 0 0, .slice none 0 0, .slice none 0 0, .slice none 0 0])
    have le := (exc_setRow w7 w.heap.size #[.int .i64 0, .int .i64 0, .int .i64 0, .int .i64 0, .slice none 0 0, .slice none 0 0, .slice none 0 0, .slice none 0 0] w.heap.size).below (Nat.le_refl _)
    refine opk 3 3 (w' := (w7.setRow w.heap.size #[.int .i64 0, .int .i64 0, .int .i64 0, .int .i64 0, .slice none 0 0, .slice none 0 0, .slice none 0 0, .slice none 0 0])) kk (frY rfl (k_assign rfl (kk.e 65 rfl))) ?_; clear kk; intro a kk
    refine wp_ret ?_
    exact hfin a _ _ kk.d (kk.g 2 rfl) Qe (kk.g 3 rfl) (by rw [hpe]; unfold Rfc.endP; dsimp only; rw [if_neg (by rw [hgf]; decide), if_pos hck]) (b7.trans le)

theorem parse_any (s : List UInt8) (w : World) (hT : Tabs w) :
    Calls Tryz.prog 6 #[.string ⟨s.toArray⟩] w fun e w' => ∃ v, e = .returned v ∧ Out w' (Rfc.parse s) v ∧ Below w.heap.size w w' := by
  by_cases hl : s.length ≤ 4096
  · exact parse_some s w hT hl
  · exact parse_long s w (by omega)
end Go.Proofs.YtjdjekpbjnkliaaGreatDoor
