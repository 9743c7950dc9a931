/-
  The law's own Parse: a round of its loop.
-/
import Derived.Test.YtjdjekpbjnkliaaGreatDoorRf2
import Derived.Test.YtjdjekpbjnkliaaGreatDoorRbh
namespace Go.Proofs.YtjdjekpbjnkliaaGreatDoor
open Go.RowKit
theorem c_IB {w : World} {ρ : Operand → Value} {o : Oper} {x y : Operand} {v u : Value} (ho : o.op = .call ⟨.value (.func 21), #[x, y], #[9, 5]⟩) (hf : ρ (.func 21) = .func (.func 21) #[] #[]) (hx : ρ x = v) (hy : ρ y = u) : (execOp ρ o).run Tryz.prog w = .ok (.enter 21 #[v, u]) w := by
  simp only [execOp, ho]
  go_simp
theorem OwnS.exc {w w' : World} {base B b : Nat} {v : Value} {L : List (List UInt8)} (h : OwnS w base v L) (e : Exc B b w w') (h1 : ∀ g, v.ownBlock = Option.some g → g < B ∧ g ≠ b) : OwnS w' base v L := by
  refine ⟨h.1, ?_⟩
  rcases h.2 with hn | ⟨g, cap, cur, rfl, hb, hg, rest⟩
  · exact .inl hn
  · obtain ⟨q1, q2⟩ := h1 g rfl
    exact .inr ⟨g, cap, cur, rfl, hb, (e.block g q1 q2).trans hg, rest⟩
theorem ib_any (x : List UInt8) (w : World) : Calls Tryz.prog 21 #[.string ⟨x.toArray⟩, .int .u8 61] w fun e w' => ∃ v, e = .returned v ∧ v = .int .i64 (Lib.indexByte x 61) ∧ w' = w := by
  refine (Tryz.strings_IndexByte ⟨x.toArray⟩ 61 w).mono ?_
  rintro e w' ⟨rfl, rfl⟩
  exact ⟨_, rfl, rfl, rfl⟩
theorem Blk.strs {w : World} {b : Nat} {T : TypeId} {L : List (List UInt8)} (h : Blk w b T (L.map fun x => Value.string ⟨x.toArray⟩).toArray) : StrsIn w (some ⟨b, 0, none⟩) L := fun k hk => ⟨_, rfl, by
  rw [addr_lit, Nat.zero_add, h.cell k]
  simp [hk]⟩
noncomputable def lpaBody : Code := Tryz.f7.body.getD .skip
noncomputable def lpaRound : Code := (Tryz.f7.body.bind loopC).getD .skip
structure LpP (w : World) (nb rb sb lo : Nat) (s : List UInt8) (i : Nat) (r : Rfc.Ru) (g : List Bool) (SN : List (List UInt8)) (A : Option Addr) (cap : Nat) (a : Act) (wx : World) : Prop where
  d : a.defers = []
  z : a.tmps.size = 71
  s2 : a.tmps.getD 2 undef = .pointer (some ⟨w.heap.size, 0, none⟩)
  s4 : a.tmps.getD 4 undef = .slice (some ⟨nb, 0, none⟩) 8 8
  s5 : a.tmps.getD 5 undef = .pointer (some ⟨rb, 0, none⟩)
  s6 : a.tmps.getD 6 undef = .slice A SN.length cap
  s18 : a.tmps.getD 18 undef = .slice (some ⟨sb, 0, none⟩) (Rfc.spl s 59).length (Rfc.spl s 59).length
  s19 : a.tmps.getD 19 undef = .int .i64 (Rfc.spl s 59).length
  s20 : a.tmps.getD 20 undef = .int .i64 i
  iN : i ≤ (Rfc.spl s 59).length
  m : Rfc.runP (Rfc.spl s 59) (⟨0, 1, 0, 0, [], [], [], []⟩ : Rfc.Ru) (List.replicate 8 false) = Rfc.runP ((Rfc.spl s 59).drop i) r g
  g8 : g.length = 8
  Q2 : Blk wx w.heap.size 28 #[.int .i64 0, .int .i64 0, .int .i64 0, .int .i64 0, .slice none 0 0, .slice none 0 0, .slice none 0 0, .slice none 0 0]
  R : RuC wx rb lo r (g.getD 6 false) (Value.slice A SN.length cap).ownBlock
  N : Blk wx nb 9 (Rfc.nms.map fun x => Value.string ⟨x.toArray⟩).toArray
  S : Blk wx sb 9 ((Rfc.spl s 59).map fun x => Value.string ⟨x.toArray⟩).toArray
  sn : Rfc.Seen SN g
  oS : OwnS wx lo (.slice A SN.length cap) SN
  lS : SN.length ≤ i
  o : w.heap.size < nb ∧ nb < rb ∧ rb < sb ∧ sb < lo ∧ lo ≤ wx.heap.size
  b : Below w.heap.size w wx

set_option maxRecDepth 100000 in
set_option maxHeartbeats 2000000 in
theorem pr_noeq (w : World) (nb rb sb lo : Nat) (s : List UInt8) (hl : s.length ≤ 4096) (i : Nat) (r : Rfc.Ru) (g : List Bool) (SN : List (List UInt8)) (A : Option Addr) (cap : Nat) (a : Act) (wx : World) (Q : Exit → Act → World → Prop) (J : LpP w nb rb sb lo s i r g SN A cap a wx) (hlt : i < (Rfc.spl s 59).length) (hix : Lib.indexByte ((Rfc.spl s 59)[i]) 61 < 0) (hfin : ∀ (a' : Act) (w' : World) (n : Int), a'.defers = [] → a'.tmps.getD 2 undef = .pointer (some ⟨w.heap.size, 0, none⟩) → Blk w' w.heap.size 28 #[.int .i64 0, .int .i64 0, .int .i64 0, .int .i64 0, .slice none 0 0, .slice none 0 0, .slice none 0 0, .slice none 0 0] → a'.tmps.getD 3 undef = .int .i64 n → Rfc.runP (Rfc.spl s 59) (⟨0, 1, 0, 0, [], [], [], []⟩ : Rfc.Ru) (List.replicate 8 false) = .bad n → Below w.heap.size w w' → Q .ret a' w') :
    lpaRound.wp Tryz.prog (Exit.then (fun a' w' => (∃ i r g SN A cap, LpP w nb rb sb lo s i r g SN A cap a' w') ∧ ((Rfc.spl s 59).length - intOf (a'.tmps.getD 20 undef)).toNat < ((Rfc.spl s 59).length - intOf (a.tmps.getD 20 undef)).toNat) Q) a wx := by
  obtain ⟨hd, hs, h2, h4, h5, h6, h18, h19, h20, hi, hm, g8, Q2, hR, hN, hS, hsn0, oS, lS, oo, hb⟩ := J
  have kk := (((((((kn hs hd).p h2).p h4).p h5).p h6).p h18).p h19).p h20; clear hs hd h2 h4 h5 h6 h18 h19 h20
  have hpl : ((Rfc.spl s 59)[i]).length ≤ 100000 := Nat.le_trans (piece_le _ s 59 _ (List.getElem_mem hlt)) (by omega)
  have hcell : wx.cell? ⟨sb, i, none⟩ = some (.string ⟨(((Rfc.spl s 59)[i])).toArray⟩) := by rw [hS.cell i]; simp [hlt]
  have hspl : (Rfc.spl s 59).length ≤ 100001 := by
    rw [spl_len]
    have := Lib.countB_le ⟨#[59]⟩ (Nat.le_refl 1) _ ⟨s.toArray⟩ (Nat.le_refl _)
    rw [ba_size] at this
    omega
  have estep : Rfc.runP ((Rfc.spl s 59).drop i) r g = .bad 1 := by
    have e : Rfc.stepP ((Rfc.spl s 59)[i]) r g = .bad 1 := by
      unfold Rfc.stepP
      rw [Rfc.cut_no hix]
      rw [if_pos rfl]
    rw [List.drop_eq_getElem_cons hlt, Rfc.runP, e]
  have e20 := (kk.g 20 rfl)
  rw [e20]
  clear e20
  unfold lpaRound
  conv => arg 2; whnf
  refine wp_seq ?_
  refine wpr 1 ?_
  refine opk 0 21 (v := .bool true) kk (frY rfl (o_ltI rfl (kk.e 20 rfl) (kk.e 19 rfl) (decide_eq_true (by omega)))) ?_; clear kk; intro a kk
  refine wp_seq ?_
  refine wp_cond_true (kk.e 21 rfl) ?_
  refine wp_skip ?_
  refine wp_seq ?_
  refine wp_block ?_
  refine wp_seq ?_
  refine wpr 3 ?_
  refine opk 0 22 (v := .pointer (some ⟨sb, i, none⟩)) kk (frY rfl (k_atS' rfl (kk.e 18 rfl) (kk.e 20 rfl) hlt)) ?_; clear kk; intro a kk
  refine opk 1 23 (v := .string ⟨(((Rfc.spl s 59)[i])).toArray⟩) kk (frY rfl (k_loadStr rfl (kk.e 22 rfl) hcell)) ?_; clear kk; intro a kk
  refine opk 2 8 kk (frY rfl (k_assign rfl (kk.e 23 rfl))) ?_; clear kk; intro a kk
  refine wp_seq ?_
  refine wpr 3 ?_
  refine opk 0 24 kk (frY rfl (k_move rfl (kk.e 8 rfl))) ?_; clear kk; intro a kk
  have hc := ib_any ((Rfc.spl s 59)[i]) wx
  refine opkc 1 25 kk hc (frY rfl (c_IB rfl rfl (kk.e 24 rfl) rfl)) ?_; clear kk hc
  rintro _ w2 a ⟨rfl, hw2⟩ F0
  have kk := F0; clear F0
  subst hw2
  refine opk 2 9 kk (frY rfl (k_assign rfl (kk.e 25 rfl))) ?_; clear kk; intro a kk
  refine wp_seq ?_
  refine wp_seq ?_
  refine wpr 10 ?_
  refine opk 0 26 kk (frY rfl (k_move rfl (kk.e 9 rfl))) ?_; clear kk; intro a kk
  refine opk 1 27 (v := .bool true) kk (frY rfl (o_ltI rfl (kk.e 26 rfl) rfl (decide_eq_true hix))) ?_; clear kk; intro a kk
  refine opk 2 28 kk (frY rfl (k_move rfl (kk.e 27 rfl))) ?_; clear kk; intro a kk
  refine opkn 3 29 kk (frX (wanted_at (b := true) (want := false) rfl (by kernel_rfl) (kk.g 28 rfl))) ?_; clear kk; intro a kk
  refine opkn 4 30 kk (frX (wanted_at (b := true) (want := false) rfl (by kernel_rfl) (kk.g 28 rfl))) ?_; clear kk; intro a kk
  refine opkn 5 31 kk (frX (wanted_at (b := true) (want := false) rfl (by kernel_rfl) (kk.g 28 rfl))) ?_; clear kk; intro a kk
  refine opkn 6 32 kk (frX (wanted_at (b := true) (want := false) rfl (by kernel_rfl) (kk.g 28 rfl))) ?_; clear kk; intro a kk
  refine opkn 7 33 kk (frX (wanted_at (b := true) (want := false) rfl (by kernel_rfl) (kk.g 28 rfl))) ?_; clear kk; intro a kk
  refine opkn 8 34 kk (frX (wanted_at (b := true) (want := false) rfl (by kernel_rfl) (kk.g 28 rfl))) ?_; clear kk; intro a kk
  refine opk 9 35 (v := .bool true) kk (frY rfl (k_pick_yes rfl (kk.e 28 rfl) rfl)) ?_; clear kk; intro a kk
  refine wp_cond_true (kk.e 35 rfl) ?_
  refine wp_seq ?_
  refine wpr 3 ?_
  refine opk 0 36 (v := .agg #[.int .i64 0, .int .i64 0, .int .i64 0, .int .i64 0, .slice none 0 0, .slice none 0 0, .slice none 0 0, .slice none 0 0]) kk (frY rfl (k_buildR0 rfl)) ?_; clear kk; intro a kk
  refine opL_store 1 (w' := (w2.setRow w.heap.size #[.int .i64 0, .int .i64 0, .int .i64 0, .int .i64 0, .slice none 0 0, .slice none 0 0, .slice none 0 0, .slice none 0 0])) (by kernel_rfl) ?_ ?_
  · exact frY rfl (k_storeR rfl (kk.e 2 rfl) (kk.e 36 rfl) Q2 rfl rfl (by simp [Value.oneCell']))
  have Qe := Q2.setRow (cs := #[.int .i64 0, .int .i64 0, .int .i64 0, .int .i64 0, .slice none 0 0, .slice none 0 0, .slice none 0 0, .slice none 0 0])
  have le := (exc_setRow w2 w.heap.size #[.int .i64 0, .int .i64 0, .int .i64 0, .int .i64 0, .slice none 0 0, .slice none 0 0, .slice none 0 0, .slice none 0 0] w.heap.size).below (Nat.le_refl _)
  refine opk 2 3 (v := .int .i64 1) (w' := (w2.setRow w.heap.size #[.int .i64 0, .int .i64 0, .int .i64 0, .int .i64 0, .slice none 0 0, .slice none 0 0, .slice none 0 0, .slice none 0 0])) kk (frY rfl (k_assign rfl rfl)) ?_; clear kk; intro a kk
  refine wp_ret ?_
  exact hfin a _ 1 kk.d (kk.g 2 rfl) Qe (kk.g 3 rfl) (by rw [hm, estep]) (hb.trans le)

set_option maxRecDepth 100000 in
set_option maxHeartbeats 2000000 in
theorem pr_unknown (w : World) (nb rb sb lo : Nat) (s : List UInt8) (hl : s.length ≤ 4096) (i : Nat) (r : Rfc.Ru) (g : List Bool) (SN : List (List UInt8)) (A : Option Addr) (cap : Nat) (a : Act) (wx : World) (Q : Exit → Act → World → Prop) (J : LpP w nb rb sb lo s i r g SN A cap a wx) (hlt : i < (Rfc.spl s 59).length) (k : Nat) (hix : Lib.indexByte ((Rfc.spl s 59)[i]) 61 = (k : Int)) (hk : Rfc.part (((Rfc.spl s 59)[i]).take k) = none) (hfin : ∀ (a' : Act) (w' : World) (n : Int), a'.defers = [] → a'.tmps.getD 2 undef = .pointer (some ⟨w.heap.size, 0, none⟩) → Blk w' w.heap.size 28 #[.int .i64 0, .int .i64 0, .int .i64 0, .int .i64 0, .slice none 0 0, .slice none 0 0, .slice none 0 0, .slice none 0 0] → a'.tmps.getD 3 undef = .int .i64 n → Rfc.runP (Rfc.spl s 59) (⟨0, 1, 0, 0, [], [], [], []⟩ : Rfc.Ru) (List.replicate 8 false) = .bad n → Below w.heap.size w w' → Q .ret a' w') :
    lpaRound.wp Tryz.prog (Exit.then (fun a' w' => (∃ i r g SN A cap, LpP w nb rb sb lo s i r g SN A cap a' w') ∧ ((Rfc.spl s 59).length - intOf (a'.tmps.getD 20 undef)).toNat < ((Rfc.spl s 59).length - intOf (a.tmps.getD 20 undef)).toNat) Q) a wx := by
  obtain ⟨hd, hs, h2, h4, h5, h6, h18, h19, h20, hi, hm, g8, Q2, hR, hN, hS, hsn0, oS, lS, oo, hb⟩ := J
  have kk := (((((((kn hs hd).p h2).p h4).p h5).p h6).p h18).p h19).p h20; clear hs hd h2 h4 h5 h6 h18 h19 h20
  have hpl : ((Rfc.spl s 59)[i]).length ≤ 100000 := Nat.le_trans (piece_le _ s 59 _ (List.getElem_mem hlt)) (by omega)
  have hcell : wx.cell? ⟨sb, i, none⟩ = some (.string ⟨(((Rfc.spl s 59)[i])).toArray⟩) := by rw [hS.cell i]; simp [hlt]
  have hspl : (Rfc.spl s 59).length ≤ 100001 := by
    rw [spl_len]
    have := Lib.countB_le ⟨#[59]⟩ (Nat.le_refl 1) _ ⟨s.toArray⟩ (Nat.le_refl _)
    rw [ba_size] at this
    omega
  have hkl : k < ((Rfc.spl s 59)[i]).length := by have := Rfc.ib_lt (x := ((Rfc.spl s 59)[i])) (by omega); rw [hix] at this; simpa using this
  have hmem := Rfc.part_none hk
  have estep : Rfc.runP ((Rfc.spl s 59).drop i) r g = .bad 1 := by
    have e : Rfc.stepP ((Rfc.spl s 59)[i]) r g = .bad 1 := by
      unfold Rfc.stepP
      rw [Rfc.cut_yes (by omega), hix]
      simp only [Int.toNat_natCast]; rw [if_neg (by decide), hk]
    rw [List.drop_eq_getElem_cons hlt, Rfc.runP, e]
  have e20 := (kk.g 20 rfl)
  rw [e20]
  clear e20
  unfold lpaRound
  conv => arg 2; whnf
  refine wp_seq ?_
  refine wpr 1 ?_
  refine opk 0 21 (v := .bool true) kk (frY rfl (o_ltI rfl (kk.e 20 rfl) (kk.e 19 rfl) (decide_eq_true (by omega)))) ?_; clear kk; intro a kk
  refine wp_seq ?_
  refine wp_cond_true (kk.e 21 rfl) ?_
  refine wp_skip ?_
  refine wp_seq ?_
  refine wp_block ?_
  refine wp_seq ?_
  refine wpr 3 ?_
  refine opk 0 22 (v := .pointer (some ⟨sb, i, none⟩)) kk (frY rfl (k_atS' rfl (kk.e 18 rfl) (kk.e 20 rfl) hlt)) ?_; clear kk; intro a kk
  refine opk 1 23 (v := .string ⟨(((Rfc.spl s 59)[i])).toArray⟩) kk (frY rfl (k_loadStr rfl (kk.e 22 rfl) hcell)) ?_; clear kk; intro a kk
  refine opk 2 8 kk (frY rfl (k_assign rfl (kk.e 23 rfl))) ?_; clear kk; intro a kk
  refine wp_seq ?_
  refine wpr 3 ?_
  refine opk 0 24 kk (frY rfl (k_move rfl (kk.e 8 rfl))) ?_; clear kk; intro a kk
  have hc := ib_any ((Rfc.spl s 59)[i]) wx
  refine opkc 1 25 kk hc (frY rfl (c_IB rfl rfl (kk.e 24 rfl) rfl)) ?_; clear kk hc
  rintro _ w2 a ⟨rfl, hw2⟩ F0
  rw [hix] at F0
  have kk := F0; clear F0
  subst hw2
  refine opk 2 9 kk (frY rfl (k_assign rfl (kk.e 25 rfl))) ?_; clear kk; intro a kk
  refine wp_seq ?_
  refine wp_seq ?_
  refine wpr 10 ?_
  refine opk 0 26 kk (frY rfl (k_move rfl (kk.e 9 rfl))) ?_; clear kk; intro a kk
  refine opk 1 27 (v := .bool false) kk (frY rfl (o_ltI rfl (kk.e 26 rfl) rfl (decide_eq_false (by omega)))) ?_; clear kk; intro a kk
  refine opk 2 28 kk (frY rfl (k_move rfl (kk.e 27 rfl))) ?_; clear kk; intro a kk
  refine opk 3 29 kk (frY (wanted_at (b := false) (want := false) rfl (by kernel_rfl) (kk.g 28 rfl)) (k_move rfl (kk.e 4 rfl))) ?_; clear kk; intro a kk
  refine opk 4 30 kk (frY (wanted_at (b := false) (want := false) rfl (by kernel_rfl) (kk.g 28 rfl)) (k_move rfl (kk.e 8 rfl))) ?_; clear kk; intro a kk
  refine opk 5 31 kk (frY (wanted_at (b := false) (want := false) rfl (by kernel_rfl) (kk.g 28 rfl)) (k_move rfl (kk.e 9 rfl))) ?_; clear kk; intro a kk
  refine opk 6 32 (v := .string ⟨((((Rfc.spl s 59)[i]).take k)).toArray⟩) kk (frY (wanted_at (b := false) (want := false) rfl (by kernel_rfl) (kk.g 28 rfl)) (k_takeS rfl (kk.e 30 rfl) (kk.e 31 rfl) (by omega))) ?_; clear kk; intro a kk
  have hc := lcontains_any (some ⟨nb, 0, none⟩) 8 Rfc.nms (((Rfc.spl s 59)[i]).take k) w2 hN.strs (by decide)
  refine opkc 7 33 kk hc (frY (wanted_at (b := false) (want := false) rfl (by kernel_rfl) (kk.g 28 rfl)) (c_CoS rfl rfl (kk.e 29 rfl) (kk.e 32 rfl))) ?_; clear kk hc
  rintro _ w3 a ⟨rfl, hw3⟩ F0
  rw [decide_eq_false hmem] at F0
  have kk := F0; clear F0
  replace hw3 := hw3.symm
  subst hw3
  refine opk 8 34 (v := .bool true) kk (frY (wanted_at (b := false) (want := false) rfl (by kernel_rfl) (kk.g 28 rfl)) (o_not rfl (kk.e 33 rfl) rfl)) ?_; clear kk; intro a kk
  refine opk 9 35 (v := .bool true) kk (frY rfl (k_pick_no rfl (kk.e 28 rfl) (kk.e 34 rfl))) ?_; clear kk; intro a kk
  refine wp_cond_true (kk.e 35 rfl) ?_
  refine wp_seq ?_
  refine wpr 3 ?_
  refine opk 0 36 (v := .agg #[.int .i64 0, .int .i64 0, .int .i64 0, .int .i64 0, .slice none 0 0, .slice none 0 0, .slice none 0 0, .slice none 0 0]) kk (frY rfl (k_buildR0 rfl)) ?_; clear kk; intro a kk
  refine opL_store 1 (w' := (w3.setRow w.heap.size #[.int .i64 0, .int .i64 0, .int .i64 0, .int .i64 0, .slice none 0 0, .slice none 0 0, .slice none 0 0, .slice none 0 0])) (by kernel_rfl) ?_ ?_
  · exact frY rfl (k_storeR rfl (kk.e 2 rfl) (kk.e 36 rfl) Q2 rfl rfl (by simp [Value.oneCell']))
  have Qe := Q2.setRow (cs := #[.int .i64 0, .int .i64 0, .int .i64 0, .int .i64 0, .slice none 0 0, .slice none 0 0, .slice none 0 0, .slice none 0 0])
  have le := (exc_setRow w3 w.heap.size #[.int .i64 0, .int .i64 0, .int .i64 0, .int .i64 0, .slice none 0 0, .slice none 0 0, .slice none 0 0, .slice none 0 0] w.heap.size).below (Nat.le_refl _)
  refine opk 2 3 (v := .int .i64 1) (w' := (w3.setRow w.heap.size #[.int .i64 0, .int .i64 0, .int .i64 0, .int .i64 0, .slice none 0 0, .slice none 0 0, .slice none 0 0, .slice none 0 0])) kk (frY rfl (k_assign rfl rfl)) ?_; clear kk; intro a kk
  refine wp_ret ?_
  exact hfin a _ 1 kk.d (kk.g 2 rfl) Qe (kk.g 3 rfl) (by rw [hm, estep]) (hb.trans le)

set_option maxRecDepth 100000 in
set_option maxHeartbeats 2000000 in
theorem pr_twice (w : World) (nb rb sb lo : Nat) (s : List UInt8) (hl : s.length ≤ 4096) (i : Nat) (r : Rfc.Ru) (g : List Bool) (SN : List (List UInt8)) (A : Option Addr) (cap : Nat) (a : Act) (wx : World) (Q : Exit → Act → World → Prop) (J : LpP w nb rb sb lo s i r g SN A cap a wx) (hlt : i < (Rfc.spl s 59).length) (k : Nat) (hix : Lib.indexByte ((Rfc.spl s 59)[i]) 61 = (k : Int)) (p : Nat) (hk : Rfc.part (((Rfc.spl s 59)[i]).take k) = some p) (hgp : g.getD p false = true) (hfin : ∀ (a' : Act) (w' : World) (n : Int), a'.defers = [] → a'.tmps.getD 2 undef = .pointer (some ⟨w.heap.size, 0, none⟩) → Blk w' w.heap.size 28 #[.int .i64 0, .int .i64 0, .int .i64 0, .int .i64 0, .slice none 0 0, .slice none 0 0, .slice none 0 0, .slice none 0 0] → a'.tmps.getD 3 undef = .int .i64 n → Rfc.runP (Rfc.spl s 59) (⟨0, 1, 0, 0, [], [], [], []⟩ : Rfc.Ru) (List.replicate 8 false) = .bad n → Below w.heap.size w w' → Q .ret a' w') :
    lpaRound.wp Tryz.prog (Exit.then (fun a' w' => (∃ i r g SN A cap, LpP w nb rb sb lo s i r g SN A cap a' w') ∧ ((Rfc.spl s 59).length - intOf (a'.tmps.getD 20 undef)).toNat < ((Rfc.spl s 59).length - intOf (a.tmps.getD 20 undef)).toNat) Q) a wx := by
  obtain ⟨hd, hs, h2, h4, h5, h6, h18, h19, h20, hi, hm, g8, Q2, hR, hN, hS, hsn0, oS, lS, oo, hb⟩ := J
  have kk := (((((((kn hs hd).p h2).p h4).p h5).p h6).p h18).p h19).p h20; clear hs hd h2 h4 h5 h6 h18 h19 h20
  have hpl : ((Rfc.spl s 59)[i]).length ≤ 100000 := Nat.le_trans (piece_le _ s 59 _ (List.getElem_mem hlt)) (by omega)
  have hcell : wx.cell? ⟨sb, i, none⟩ = some (.string ⟨(((Rfc.spl s 59)[i])).toArray⟩) := by rw [hS.cell i]; simp [hlt]
  have hspl : (Rfc.spl s 59).length ≤ 100001 := by
    rw [spl_len]
    have := Lib.countB_le ⟨#[59]⟩ (Nat.le_refl 1) _ ⟨s.toArray⟩ (Nat.le_refl _)
    rw [ba_size] at this
    omega
  have hkl : k < ((Rfc.spl s 59)[i]).length := by have := Rfc.ib_lt (x := ((Rfc.spl s 59)[i])) (by omega); rw [hix] at this; simpa using this
  have hmem := Rfc.part_mem hk
  obtain ⟨hp, hnm⟩ := Rfc.part_of hk
  have hsn := hsn0 p hp
  rw [hnm, hgp] at hsn
  replace hsn := hsn.2 rfl
  have estep : Rfc.runP ((Rfc.spl s 59).drop i) r g = .bad 5 := by
    have e : Rfc.stepP ((Rfc.spl s 59)[i]) r g = .bad 5 := by
      unfold Rfc.stepP
      rw [Rfc.cut_yes (by omega), hix]
      simp only [Int.toNat_natCast]; rw [if_neg (by decide), hk]; simp only []; rw [if_pos hgp]
    rw [List.drop_eq_getElem_cons hlt, Rfc.runP, e]
  have e20 := (kk.g 20 rfl)
  rw [e20]
  clear e20
  unfold lpaRound
  conv => arg 2; whnf
  refine wp_seq ?_
  refine wpr 1 ?_
  refine opk 0 21 (v := .bool true) kk (frY rfl (o_ltI rfl (kk.e 20 rfl) (kk.e 19 rfl) (decide_eq_true (by omega)))) ?_; clear kk; intro a kk
  refine wp_seq ?_
  refine wp_cond_true (kk.e 21 rfl) ?_
  refine wp_skip ?_
  refine wp_seq ?_
  refine wp_block ?_
  refine wp_seq ?_
  refine wpr 3 ?_
  refine opk 0 22 (v := .pointer (some ⟨sb, i, none⟩)) kk (frY rfl (k_atS' rfl (kk.e 18 rfl) (kk.e 20 rfl) hlt)) ?_; clear kk; intro a kk
  refine opk 1 23 (v := .string ⟨(((Rfc.spl s 59)[i])).toArray⟩) kk (frY rfl (k_loadStr rfl (kk.e 22 rfl) hcell)) ?_; clear kk; intro a kk
  refine opk 2 8 kk (frY rfl (k_assign rfl (kk.e 23 rfl))) ?_; clear kk; intro a kk
  refine wp_seq ?_
  refine wpr 3 ?_
  refine opk 0 24 kk (frY rfl (k_move rfl (kk.e 8 rfl))) ?_; clear kk; intro a kk
  have hc := ib_any ((Rfc.spl s 59)[i]) wx
  refine opkc 1 25 kk hc (frY rfl (c_IB rfl rfl (kk.e 24 rfl) rfl)) ?_; clear kk hc
  rintro _ w2 a ⟨rfl, hw2⟩ F0
  rw [hix] at F0
  have kk := F0; clear F0
  subst hw2
  refine opk 2 9 kk (frY rfl (k_assign rfl (kk.e 25 rfl))) ?_; clear kk; intro a kk
  refine wp_seq ?_
  refine wp_seq ?_
  refine wpr 10 ?_
  refine opk 0 26 kk (frY rfl (k_move rfl (kk.e 9 rfl))) ?_; clear kk; intro a kk
  refine opk 1 27 (v := .bool false) kk (frY rfl (o_ltI rfl (kk.e 26 rfl) rfl (decide_eq_false (by omega)))) ?_; clear kk; intro a kk
  refine opk 2 28 kk (frY rfl (k_move rfl (kk.e 27 rfl))) ?_; clear kk; intro a kk
  refine opk 3 29 kk (frY (wanted_at (b := false) (want := false) rfl (by kernel_rfl) (kk.g 28 rfl)) (k_move rfl (kk.e 4 rfl))) ?_; clear kk; intro a kk
  refine opk 4 30 kk (frY (wanted_at (b := false) (want := false) rfl (by kernel_rfl) (kk.g 28 rfl)) (k_move rfl (kk.e 8 rfl))) ?_; clear kk; intro a kk
  refine opk 5 31 kk (frY (wanted_at (b := false) (want := false) rfl (by kernel_rfl) (kk.g 28 rfl)) (k_move rfl (kk.e 9 rfl))) ?_; clear kk; intro a kk
  refine opk 6 32 (v := .string ⟨((((Rfc.spl s 59)[i]).take k)).toArray⟩) kk (frY (wanted_at (b := false) (want := false) rfl (by kernel_rfl) (kk.g 28 rfl)) (k_takeS rfl (kk.e 30 rfl) (kk.e 31 rfl) (by omega))) ?_; clear kk; intro a kk
  have hc := lcontains_any (some ⟨nb, 0, none⟩) 8 Rfc.nms (((Rfc.spl s 59)[i]).take k) w2 hN.strs (by decide)
  refine opkc 7 33 kk hc (frY (wanted_at (b := false) (want := false) rfl (by kernel_rfl) (kk.g 28 rfl)) (c_CoS rfl rfl (kk.e 29 rfl) (kk.e 32 rfl))) ?_; clear kk hc
  rintro _ w3 a ⟨rfl, hw3⟩ F0
  rw [decide_eq_true hmem] at F0
  have kk := F0; clear F0
  replace hw3 := hw3.symm
  subst hw3
  refine opk 8 34 (v := .bool false) kk (frY (wanted_at (b := false) (want := false) rfl (by kernel_rfl) (kk.g 28 rfl)) (o_not rfl (kk.e 33 rfl) rfl)) ?_; clear kk; intro a kk
  refine opk 9 35 (v := .bool false) kk (frY rfl (k_pick_no rfl (kk.e 28 rfl) (kk.e 34 rfl))) ?_; clear kk; intro a kk
  refine wp_cond_false (kk.e 35 rfl) ?_
  refine wp_skip ?_
  refine wp_seq ?_
  refine wp_seq ?_
  refine wpr 5 ?_
  refine opk 0 37 kk (frY rfl (k_move rfl (kk.e 6 rfl))) ?_; clear kk; intro a kk
  refine opk 1 38 kk (frY rfl (k_move rfl (kk.e 8 rfl))) ?_; clear kk; intro a kk
  refine opk 2 39 kk (frY rfl (k_move rfl (kk.e 9 rfl))) ?_; clear kk; intro a kk
  refine opk 3 40 (v := .string ⟨((((Rfc.spl s 59)[i]).take k)).toArray⟩) kk (frY rfl (k_takeS rfl (kk.e 38 rfl) (kk.e 39 rfl) (by omega))) ?_; clear kk; intro a kk
  have hc := lcontains_any A cap SN (((Rfc.spl s 59)[i]).take k) w3 oS.strs (by omega)
  refine opkc 4 41 kk hc (frY rfl (c_CoS rfl rfl (kk.e 37 rfl) (kk.e 40 rfl))) ?_; clear kk hc
  rintro _ w4 a ⟨rfl, hw4⟩ F0
  rw [decide_eq_true hsn] at F0
  have kk := F0; clear F0
  replace hw4 := hw4.symm
  subst hw4
  refine wp_cond_true (kk.e 41 rfl) ?_
  refine wp_seq ?_
  refine wpr 3 ?_
  refine opk 0 42 (v := .agg #[.int .i64 0, .int .i64 0, .int .i64 0, .int .i64 0, .slice none 0 0, .slice none 0 0, .slice none 0 0, .slice none 0 0]) kk (frY rfl (k_buildR0 rfl)) ?_; clear kk; intro a kk
  refine opL_store 1 (w' := (w4.setRow w.heap.size #[.int .i64 0, .int .i64 0, .int .i64 0, .int .i64 0, .slice none 0 0, .slice none 0 0, .slice none 0 0, .slice none 0 0])) (by kernel_rfl) ?_ ?_
  · exact frY rfl (k_storeR rfl (kk.e 2 rfl) (kk.e 42 rfl) Q2 rfl rfl (by simp [Value.oneCell']))
  have Qe := Q2.setRow (cs := #[.int .i64 0, .int .i64 0, .int .i64 0, .int .i64 0, .slice none 0 0, .slice none 0 0, .slice none 0 0, .slice none 0 0])
  have le := (exc_setRow w4 w.heap.size #[.int .i64 0, .int .i64 0, .int .i64 0, .int .i64 0, .slice none 0 0, .slice none 0 0, .slice none 0 0, .slice none 0 0] w.heap.size).below (Nat.le_refl _)
  refine opk 2 3 (v := .int .i64 5) (w' := (w4.setRow w.heap.size #[.int .i64 0, .int .i64 0, .int .i64 0, .int .i64 0, .slice none 0 0, .slice none 0 0, .slice none 0 0, .slice none 0 0])) kk (frY rfl (k_assign rfl rfl)) ?_; clear kk; intro a kk
  refine wp_ret ?_
  exact hfin a _ 5 kk.d (kk.g 2 rfl) Qe (kk.g 3 rfl) (by rw [hm, estep]) (hb.trans le)

set_option maxRecDepth 100000 in
set_option maxHeartbeats 2000000 in
theorem pr_badval (w : World) (nb rb sb lo : Nat) (s : List UInt8) (hT : Tabs3 w) (hl : s.length ≤ 4096) (i : Nat) (r : Rfc.Ru) (g : List Bool) (SN : List (List UInt8)) (A : Option Addr) (cap : Nat) (a : Act) (wx : World) (Q : Exit → Act → World → Prop) (hQ : Blind Q) (J : LpP w nb rb sb lo s i r g SN A cap a wx) (hlt : i < (Rfc.spl s 59).length) (k : Nat) (hix : Lib.indexByte ((Rfc.spl s 59)[i]) 61 = (k : Int)) (p : Nat) (hk : Rfc.part (((Rfc.spl s 59)[i]).take k) = some p) (hgp : g.getD p false = false) (hv : Rfc.setF p (((Rfc.spl s 59)[i]).drop (k + 1)) r = none) (hfin : ∀ (a' : Act) (w' : World) (n : Int), a'.defers = [] → a'.tmps.getD 2 undef = .pointer (some ⟨w.heap.size, 0, none⟩) → Blk w' w.heap.size 28 #[.int .i64 0, .int .i64 0, .int .i64 0, .int .i64 0, .slice none 0 0, .slice none 0 0, .slice none 0 0, .slice none 0 0] → a'.tmps.getD 3 undef = .int .i64 n → Rfc.runP (Rfc.spl s 59) (⟨0, 1, 0, 0, [], [], [], []⟩ : Rfc.Ru) (List.replicate 8 false) = .bad n → Below w.heap.size w w' → Q .ret a' w') :
    lpaRound.wp Tryz.prog (Exit.then (fun a' w' => (∃ i r g SN A cap, LpP w nb rb sb lo s i r g SN A cap a' w') ∧ ((Rfc.spl s 59).length - intOf (a'.tmps.getD 20 undef)).toNat < ((Rfc.spl s 59).length - intOf (a.tmps.getD 20 undef)).toNat) Q) a wx := by
  obtain ⟨hd, hs, h2, h4, h5, h6, h18, h19, h20, hi, hm, g8, Q2, hR, hN, hS, hsn0, oS, lS, oo, hb⟩ := J
  have kk := (((((((kn hs hd).p h2).p h4).p h5).p h6).p h18).p h19).p h20; clear hs hd h2 h4 h5 h6 h18 h19 h20
  have hpl : ((Rfc.spl s 59)[i]).length ≤ 100000 := Nat.le_trans (piece_le _ s 59 _ (List.getElem_mem hlt)) (by omega)
  have hcell : wx.cell? ⟨sb, i, none⟩ = some (.string ⟨(((Rfc.spl s 59)[i])).toArray⟩) := by rw [hS.cell i]; simp [hlt]
  have hspl : (Rfc.spl s 59).length ≤ 100001 := by
    rw [spl_len]
    have := Lib.countB_le ⟨#[59]⟩ (Nat.le_refl 1) _ ⟨s.toArray⟩ (Nat.le_refl _)
    rw [ba_size] at this
    omega
  have hkl : k < ((Rfc.spl s 59)[i]).length := by have := Rfc.ib_lt (x := ((Rfc.spl s 59)[i])) (by omega); rw [hix] at this; simpa using this
  have hmem := Rfc.part_mem hk
  obtain ⟨hp, hnm⟩ := Rfc.part_of hk
  have hsn := hsn0 p hp
  rw [hnm, hgp] at hsn
  replace hsn : (((Rfc.spl s 59)[i]).take k) ∉ SN := fun h => absurd (hsn.1 h) (by decide)
  have hq6 : p = 6 → g.getD 6 false = false := fun e => by rw [← e]; exact hgp
  have estep : Rfc.runP ((Rfc.spl s 59).drop i) r g = .bad 1 := by
    have e : Rfc.stepP ((Rfc.spl s 59)[i]) r g = .bad 1 := by
      unfold Rfc.stepP
      rw [Rfc.cut_yes (by omega), hix]
      simp only [Int.toNat_natCast]; rw [if_neg (by decide), hk]; simp only []; rw [if_neg (by rw [hgp]; decide), hv]
    rw [List.drop_eq_getElem_cons hlt, Rfc.runP, e]
  have e20 := (kk.g 20 rfl)
  rw [e20]
  clear e20
  unfold lpaRound
  conv => arg 2; whnf
  refine wp_seq ?_
  refine wpr 1 ?_
  refine opk 0 21 (v := .bool true) kk (frY rfl (o_ltI rfl (kk.e 20 rfl) (kk.e 19 rfl) (decide_eq_true (by omega)))) ?_; clear kk; intro a kk
  refine wp_seq ?_
  refine wp_cond_true (kk.e 21 rfl) ?_
  refine wp_skip ?_
  refine wp_seq ?_
  refine wp_block ?_
  refine wp_seq ?_
  refine wpr 3 ?_
  refine opk 0 22 (v := .pointer (some ⟨sb, i, none⟩)) kk (frY rfl (k_atS' rfl (kk.e 18 rfl) (kk.e 20 rfl) hlt)) ?_; clear kk; intro a kk
  refine opk 1 23 (v := .string ⟨(((Rfc.spl s 59)[i])).toArray⟩) kk (frY rfl (k_loadStr rfl (kk.e 22 rfl) hcell)) ?_; clear kk; intro a kk
  refine opk 2 8 kk (frY rfl (k_assign rfl (kk.e 23 rfl))) ?_; clear kk; intro a kk
  refine wp_seq ?_
  refine wpr 3 ?_
  refine opk 0 24 kk (frY rfl (k_move rfl (kk.e 8 rfl))) ?_; clear kk; intro a kk
  have hc := ib_any ((Rfc.spl s 59)[i]) wx
  refine opkc 1 25 kk hc (frY rfl (c_IB rfl rfl (kk.e 24 rfl) rfl)) ?_; clear kk hc
  rintro _ w2 a ⟨rfl, hw2⟩ F0
  rw [hix] at F0
  have kk := F0; clear F0
  subst hw2
  refine opk 2 9 kk (frY rfl (k_assign rfl (kk.e 25 rfl))) ?_; clear kk; intro a kk
  refine wp_seq ?_
  refine wp_seq ?_
  refine wpr 10 ?_
  refine opk 0 26 kk (frY rfl (k_move rfl (kk.e 9 rfl))) ?_; clear kk; intro a kk
  refine opk 1 27 (v := .bool false) kk (frY rfl (o_ltI rfl (kk.e 26 rfl) rfl (decide_eq_false (by omega)))) ?_; clear kk; intro a kk
  refine opk 2 28 kk (frY rfl (k_move rfl (kk.e 27 rfl))) ?_; clear kk; intro a kk
  refine opk 3 29 kk (frY (wanted_at (b := false) (want := false) rfl (by kernel_rfl) (kk.g 28 rfl)) (k_move rfl (kk.e 4 rfl))) ?_; clear kk; intro a kk
  refine opk 4 30 kk (frY (wanted_at (b := false) (want := false) rfl (by kernel_rfl) (kk.g 28 rfl)) (k_move rfl (kk.e 8 rfl))) ?_; clear kk; intro a kk
  refine opk 5 31 kk (frY (wanted_at (b := false) (want := false) rfl (by kernel_rfl) (kk.g 28 rfl)) (k_move rfl (kk.e 9 rfl))) ?_; clear kk; intro a kk
  refine opk 6 32 (v := .string ⟨((((Rfc.spl s 59)[i]).take k)).toArray⟩) kk (frY (wanted_at (b := false) (want := false) rfl (by kernel_rfl) (kk.g 28 rfl)) (k_takeS rfl (kk.e 30 rfl) (kk.e 31 rfl) (by omega))) ?_; clear kk; intro a kk
  have hc := lcontains_any (some ⟨nb, 0, none⟩) 8 Rfc.nms (((Rfc.spl s 59)[i]).take k) w2 hN.strs (by decide)
  refine opkc 7 33 kk hc (frY (wanted_at (b := false) (want := false) rfl (by kernel_rfl) (kk.g 28 rfl)) (c_CoS rfl rfl (kk.e 29 rfl) (kk.e 32 rfl))) ?_; clear kk hc
  rintro _ w3 a ⟨rfl, hw3⟩ F0
  rw [decide_eq_true hmem] at F0
  have kk := F0; clear F0
  replace hw3 := hw3.symm
  subst hw3
  refine opk 8 34 (v := .bool false) kk (frY (wanted_at (b := false) (want := false) rfl (by kernel_rfl) (kk.g 28 rfl)) (o_not rfl (kk.e 33 rfl) rfl)) ?_; clear kk; intro a kk
  refine opk 9 35 (v := .bool false) kk (frY rfl (k_pick_no rfl (kk.e 28 rfl) (kk.e 34 rfl))) ?_; clear kk; intro a kk
  refine wp_cond_false (kk.e 35 rfl) ?_
  refine wp_skip ?_
  refine wp_seq ?_
  refine wp_seq ?_
  refine wpr 5 ?_
  refine opk 0 37 kk (frY rfl (k_move rfl (kk.e 6 rfl))) ?_; clear kk; intro a kk
  refine opk 1 38 kk (frY rfl (k_move rfl (kk.e 8 rfl))) ?_; clear kk; intro a kk
  refine opk 2 39 kk (frY rfl (k_move rfl (kk.e 9 rfl))) ?_; clear kk; intro a kk
  refine opk 3 40 (v := .string ⟨((((Rfc.spl s 59)[i]).take k)).toArray⟩) kk (frY rfl (k_takeS rfl (kk.e 38 rfl) (kk.e 39 rfl) (by omega))) ?_; clear kk; intro a kk
  have hc := lcontains_any A cap SN (((Rfc.spl s 59)[i]).take k) w3 oS.strs (by omega)
  refine opkc 4 41 kk hc (frY rfl (c_CoS rfl rfl (kk.e 37 rfl) (kk.e 40 rfl))) ?_; clear kk hc
  rintro _ w4 a ⟨rfl, hw4⟩ F0
  rw [decide_eq_false hsn] at F0
  have kk := F0; clear F0
  replace hw4 := hw4.symm
  subst hw4
  refine wp_cond_false (kk.e 41 rfl) ?_
  refine wp_skip ?_
  refine wp_seq ?_
  refine wpr 7 ?_
  refine opk 0 43 kk (frY rfl (k_move rfl (kk.e 6 rfl))) ?_; clear kk; intro a kk
  refine opk 1 44 kk (frY rfl (k_move rfl (kk.e 8 rfl))) ?_; clear kk; intro a kk
  refine opk 2 45 kk (frY rfl (k_move rfl (kk.e 9 rfl))) ?_; clear kk; intro a kk
  refine opk 3 46 (v := .string ⟨((((Rfc.spl s 59)[i]).take k)).toArray⟩) kk (frY rfl (k_takeS rfl (kk.e 44 rfl) (kk.e 45 rfl) (by omega))) ?_; clear kk; intro a kk
  refine opk 4 47 (v := .slice (some ⟨w4.heap.size, 0, none⟩) 1 1) (w' := (w4.alloc (.cells #[.string ⟨((((Rfc.spl s 59)[i]).take k)).toArray⟩] 9))) kk (frY rfl (k_sliceS rfl (kk.e 46 rfl))) ?_; clear kk; intro a kk
  obtain ⟨w5, hw5⟩ : ∃ wn, wn = w4.alloc (.cells #[.string ⟨((((Rfc.spl s 59)[i]).take k)).toArray⟩] 9) := ⟨_, rfl⟩
  rw [← hw5]
  have q5 : Blk w5 w4.heap.size 9 #[.string ⟨((((Rfc.spl s 59)[i]).take k)).toArray⟩] := by rw [hw5]; exact Blk.alloc _ _ _
  have l5 : Below w4.heap.size w4 w5 := by rw [hw5]; exact (Below.refl _ _).alloc (Nat.le_refl _) _
  clear hw5
  replace Q2 := Q2.below l5 Q2.lt
  replace hN := hN.below l5 hN.lt
  replace hS := hS.below l5 hS.lt
  replace hR := hR.exc (Exc.of (b := sb) l5) (by omega) (by omega)
  replace oS := oS.below l5
  replace hb := hb.trans (l5.mono hb.size)
  have zl5 : lo ≤ w5.heap.size := by have := l5.size; omega
  obtain ⟨v', w6, hr, oS6, b6, gr6, hv6⟩ := append_str_c (c := 1) oS (q5.cell 0) (by omega) zl5
  obtain ⟨A', cap', rfl⟩ := oS6.form
  have hoff : ∀ x, x < lo → some x ≠ (Value.slice A SN.length cap).ownBlock := fun x hx e => by have := (World.ownsRow.lt oS x e.symm).1; omega
  replace Q2 := Q2.grown gr6 (hoff _ (by omega))
  replace hN := hN.grown gr6 (hoff _ (by omega))
  replace hS := hS.grown gr6 (hoff _ (by omega))
  replace hR := hR.grown gr6 hv6 (hoff _ (by omega))
  replace hb := hb.trans (b6.mono (by omega))
  have zl6 : lo ≤ w6.heap.size := Nat.le_trans zl5 gr6.size
  replace oS := oS6
  clear oS6 b6 gr6 hv6 hoff
  refine opk 5 48 (v := (.slice A' (SN ++ [(((Rfc.spl s 59)[i]).take k)]).length cap')) kk (frY rfl (k_append rfl rfl (kk.e 43 rfl) (kk.e 47 rfl) hr)) ?_; clear kk; intro a kk
  replace kk := kk.keep [48, 41, 35, 28, 9, 8, 21, 20, 19, 18, 5, 4, 2] rfl
  refine opk 6 6 kk (frY rfl (k_assign rfl (kk.e 48 rfl))) ?_; clear kk; intro a kk
  refine wp_seq ?_
  have hcall : ∀ u, Below w6.heap.size w6 u → Calls Tryz.prog 23 #[.pointer (some ⟨rb, 0, none⟩), .string ⟨((((Rfc.spl s 59)[i]).take k)).toArray⟩, .string ⟨((((Rfc.spl s 59)[i]).drop (k + 1))).toArray⟩] u fun e w' => ∃ v, e = .returned v ∧ (v = .bool false ∧ (∀ r', Rfc.setF p (((Rfc.spl s 59)[i]).drop (k + 1)) r = some r' → RuC w' rb lo r' (g.getD 6 false || p == 6) (Value.slice A' (SN ++ [(((Rfc.spl s 59)[i]).take k)]).length cap').ownBlock) ∧ Exc u.heap.size rb u w') := by
    intro u hu
    have zu := hu.size
    have bu := hb.trans (hu.mono hb.size)
    have := lval_any p hp rb lo r (g.getD 6 false) (((Rfc.spl s 59)[i]).drop (k + 1)) u (hT.below bu) (fun wz e => hT.below (bu.trans ((e.mono bu.size).below (by omega)))) (by rw [List.length_drop]; omega) _ (fun t ht => Nat.lt_of_lt_of_le (World.ownsRow.lt oS t ht).2 zu) (hR.exc (Exc.of (b := sb) hu) (by omega) (by omega)) hq6 ⟨by omega, by omega⟩
    rw [hnm] at this
    refine this.mono ?_
    rintro e wz ⟨vz, ez, vz2, hCz, hEz⟩
    exact ⟨vz, ez, by rw [vz2, hv]; rfl, hCz, hEz⟩
  have hx := fun Q hQ => regP15 a w6 Q hQ rb k ((Rfc.spl s 59)[i]) false _ _ _ _ _ _ _ _ kk.d kk.z (kk.g 5 rfl) (kk.g 8 rfl) (kk.g 9 rfl) (kk.g 2 rfl) (kk.g 4 rfl) (kk.g 6 rfl) (kk.g 18 rfl) (kk.g 19 rfl) (kk.g 20 rfl) hkl hpl hcall
  refine hx _ ?z189 ?z190
  case z189 => (repeat (first | exact hQ | refine blind_then ?_ | refine blind_block ?_))
  case z190 =>
  clear kk hx hcall a
  intro a w7 hs hd h5 h8 h9 h2 h4 h6 h18 h19 h20 h57 hRn e7
  have kk := ((((((((((kn hs hd).p h5).p h8).p h9).p h2).p h4).p h6).p h18).p h19).p h20).p h57; clear hs hd h5 h8 h9 h2 h4 h6 h18 h19 h20 h57
  have zl7 : lo ≤ w7.heap.size := Nat.le_trans zl6 e7.size
  replace Q2 := Q2.exc e7 Q2.lt (by omega)
  replace hN := hN.exc e7 hN.lt (by omega)
  replace hS := hS.exc e7 hS.lt (by omega)
  replace oS := oS.exc e7 (fun t ht => ⟨(World.ownsRow.lt oS t ht).2, by have := (World.ownsRow.lt oS t ht).1; omega⟩)
  replace hb := hb.trans ((e7.mono hb.size).below (by omega))
  refine wp_cond_true (kk.e 57 rfl) ?_
  refine wp_seq ?_
  refine wpr 3 ?_
  refine opk 0 58 (v := .agg #[.int .i64 0, .int .i64 0, .int .i64 0, .int .i64 0, .slice none 0 0, .slice none 0 0, .slice none 0 0, .slice none 0 0]) kk (frY rfl (k_buildR0 rfl)) ?_; clear kk; intro a kk
  refine opL_store 1 (w' := (w7.setRow w.heap.size #[.int .i64 0, .int .i64 0, .int .i64 0, .int .i64 0, .slice none 0 0, .slice none 0 0, .slice none 0 0, .slice none 0 0])) (by kernel_rfl) ?_ ?_
  · exact frY rfl (k_storeR rfl (kk.e 2 rfl) (kk.e 58 rfl) Q2 rfl rfl (by simp [Value.oneCell']))
  have Qe := Q2.setRow (cs := #[.int .i64 0, .int .i64 0, .int .i64 0, .int .i64 0, .slice none 0 0, .slice none 0 0, .slice none 0 0, .slice none 0 0])
  have le := (exc_setRow w7 w.heap.size #[.int .i64 0, .int .i64 0, .int .i64 0, .int .i64 0, .slice none 0 0, .slice none 0 0, .slice none 0 0, .slice none 0 0] w.heap.size).below (Nat.le_refl _)
  refine opk 2 3 (v := .int .i64 1) (w' := (w7.setRow w.heap.size #[.int .i64 0, .int .i64 0, .int .i64 0, .int .i64 0, .slice none 0 0, .slice none 0 0, .slice none 0 0, .slice none 0 0])) kk (frY rfl (k_assign rfl rfl)) ?_; clear kk; intro a kk
  refine wp_ret ?_
  exact hfin a _ 1 kk.d (kk.g 2 rfl) Qe (kk.g 3 rfl) (by rw [hm, estep]) (hb.trans le)

set_option maxRecDepth 100000 in
set_option maxHeartbeats 2000000 in
theorem pr_ok (w : World) (nb rb sb lo : Nat) (s : List UInt8) (hT : Tabs3 w) (hl : s.length ≤ 4096) (i : Nat) (r : Rfc.Ru) (g : List Bool) (SN : List (List UInt8)) (A : Option Addr) (cap : Nat) (a : Act) (wx : World) (Q : Exit → Act → World → Prop) (hQ : Blind Q) (J : LpP w nb rb sb lo s i r g SN A cap a wx) (hlt : i < (Rfc.spl s 59).length) (k : Nat) (hix : Lib.indexByte ((Rfc.spl s 59)[i]) 61 = (k : Int)) (p : Nat) (hk : Rfc.part (((Rfc.spl s 59)[i]).take k) = some p) (hgp : g.getD p false = false) (r' : Rfc.Ru) (hv : Rfc.setF p (((Rfc.spl s 59)[i]).drop (k + 1)) r = some r') :
    lpaRound.wp Tryz.prog (Exit.then (fun a' w' => (∃ i r g SN A cap, LpP w nb rb sb lo s i r g SN A cap a' w') ∧ ((Rfc.spl s 59).length - intOf (a'.tmps.getD 20 undef)).toNat < ((Rfc.spl s 59).length - intOf (a.tmps.getD 20 undef)).toNat) Q) a wx := by
  obtain ⟨hd, hs, h2, h4, h5, h6, h18, h19, h20, hi, hm, g8, Q2, hR, hN, hS, hsn0, oS, lS, oo, hb⟩ := J
  have kk := (((((((kn hs hd).p h2).p h4).p h5).p h6).p h18).p h19).p h20; clear hs hd h2 h4 h5 h6 h18 h19 h20
  have hpl : ((Rfc.spl s 59)[i]).length ≤ 100000 := Nat.le_trans (piece_le _ s 59 _ (List.getElem_mem hlt)) (by omega)
  have hcell : wx.cell? ⟨sb, i, none⟩ = some (.string ⟨(((Rfc.spl s 59)[i])).toArray⟩) := by rw [hS.cell i]; simp [hlt]
  have hspl : (Rfc.spl s 59).length ≤ 100001 := by
    rw [spl_len]
    have := Lib.countB_le ⟨#[59]⟩ (Nat.le_refl 1) _ ⟨s.toArray⟩ (Nat.le_refl _)
    rw [ba_size] at this
    omega
  have hkl : k < ((Rfc.spl s 59)[i]).length := by have := Rfc.ib_lt (x := ((Rfc.spl s 59)[i])) (by omega); rw [hix] at this; simpa using this
  have hmem := Rfc.part_mem hk
  obtain ⟨hp, hnm⟩ := Rfc.part_of hk
  have hsn := hsn0 p hp
  rw [hnm, hgp] at hsn
  replace hsn : (((Rfc.spl s 59)[i]).take k) ∉ SN := fun h => absurd (hsn.1 h) (by decide)
  have hq6 : p = 6 → g.getD 6 false = false := fun e => by rw [← e]; exact hgp
  have estep : Rfc.runP ((Rfc.spl s 59).drop i) r g = Rfc.runP ((Rfc.spl s 59).drop (i + 1)) r' (g.set p true) := by
    have e : Rfc.stepP ((Rfc.spl s 59)[i]) r g = .go r' (g.set p true) := by
      unfold Rfc.stepP
      rw [Rfc.cut_yes (by omega), hix]
      simp only [Int.toNat_natCast]; rw [if_neg (by decide), hk]; simp only []; rw [if_neg (by rw [hgp]; decide), hv]
    rw [List.drop_eq_getElem_cons hlt, Rfc.runP, e]
  have e20 := (kk.g 20 rfl)
  rw [e20]
  clear e20
  unfold lpaRound
  conv => arg 2; whnf
  refine wp_seq ?_
  refine wpr 1 ?_
  refine opk 0 21 (v := .bool true) kk (frY rfl (o_ltI rfl (kk.e 20 rfl) (kk.e 19 rfl) (decide_eq_true (by omega)))) ?_; clear kk; intro a kk
  refine wp_seq ?_
  refine wp_cond_true (kk.e 21 rfl) ?_
  refine wp_skip ?_
  refine wp_seq ?_
  refine wp_block ?_
  refine wp_seq ?_
  refine wpr 3 ?_
  refine opk 0 22 (v := .pointer (some ⟨sb, i, none⟩)) kk (frY rfl (k_atS' rfl (kk.e 18 rfl) (kk.e 20 rfl) hlt)) ?_; clear kk; intro a kk
  refine opk 1 23 (v := .string ⟨(((Rfc.spl s 59)[i])).toArray⟩) kk (frY rfl (k_loadStr rfl (kk.e 22 rfl) hcell)) ?_; clear kk; intro a kk
  refine opk 2 8 kk (frY rfl (k_assign rfl (kk.e 23 rfl))) ?_; clear kk; intro a kk
  refine wp_seq ?_
  refine wpr 3 ?_
  refine opk 0 24 kk (frY rfl (k_move rfl (kk.e 8 rfl))) ?_; clear kk; intro a kk
  have hc := ib_any ((Rfc.spl s 59)[i]) wx
  refine opkc 1 25 kk hc (frY rfl (c_IB rfl rfl (kk.e 24 rfl) rfl)) ?_; clear kk hc
  rintro _ w2 a ⟨rfl, hw2⟩ F0
  rw [hix] at F0
  have kk := F0; clear F0
  subst hw2
  refine opk 2 9 kk (frY rfl (k_assign rfl (kk.e 25 rfl))) ?_; clear kk; intro a kk
  refine wp_seq ?_
  refine wp_seq ?_
  refine wpr 10 ?_
  refine opk 0 26 kk (frY rfl (k_move rfl (kk.e 9 rfl))) ?_; clear kk; intro a kk
  refine opk 1 27 (v := .bool false) kk (frY rfl (o_ltI rfl (kk.e 26 rfl) rfl (decide_eq_false (by omega)))) ?_; clear kk; intro a kk
  refine opk 2 28 kk (frY rfl (k_move rfl (kk.e 27 rfl))) ?_; clear kk; intro a kk
  refine opk 3 29 kk (frY (wanted_at (b := false) (want := false) rfl (by kernel_rfl) (kk.g 28 rfl)) (k_move rfl (kk.e 4 rfl))) ?_; clear kk; intro a kk
  refine opk 4 30 kk (frY (wanted_at (b := false) (want := false) rfl (by kernel_rfl) (kk.g 28 rfl)) (k_move rfl (kk.e 8 rfl))) ?_; clear kk; intro a kk
  refine opk 5 31 kk (frY (wanted_at (b := false) (want := false) rfl (by kernel_rfl) (kk.g 28 rfl)) (k_move rfl (kk.e 9 rfl))) ?_; clear kk; intro a kk
  refine opk 6 32 (v := .string ⟨((((Rfc.spl s 59)[i]).take k)).toArray⟩) kk (frY (wanted_at (b := false) (want := false) rfl (by kernel_rfl) (kk.g 28 rfl)) (k_takeS rfl (kk.e 30 rfl) (kk.e 31 rfl) (by omega))) ?_; clear kk; intro a kk
  have hc := lcontains_any (some ⟨nb, 0, none⟩) 8 Rfc.nms (((Rfc.spl s 59)[i]).take k) w2 hN.strs (by decide)
  refine opkc 7 33 kk hc (frY (wanted_at (b := false) (want := false) rfl (by kernel_rfl) (kk.g 28 rfl)) (c_CoS rfl rfl (kk.e 29 rfl) (kk.e 32 rfl))) ?_; clear kk hc
  rintro _ w3 a ⟨rfl, hw3⟩ F0
  rw [decide_eq_true hmem] at F0
  have kk := F0; clear F0
  replace hw3 := hw3.symm
  subst hw3
  refine opk 8 34 (v := .bool false) kk (frY (wanted_at (b := false) (want := false) rfl (by kernel_rfl) (kk.g 28 rfl)) (o_not rfl (kk.e 33 rfl) rfl)) ?_; clear kk; intro a kk
  refine opk 9 35 (v := .bool false) kk (frY rfl (k_pick_no rfl (kk.e 28 rfl) (kk.e 34 rfl))) ?_; clear kk; intro a kk
  refine wp_cond_false (kk.e 35 rfl) ?_
  refine wp_skip ?_
  refine wp_seq ?_
  refine wp_seq ?_
  refine wpr 5 ?_
  refine opk 0 37 kk (frY rfl (k_move rfl (kk.e 6 rfl))) ?_; clear kk; intro a kk
  refine opk 1 38 kk (frY rfl (k_move rfl (kk.e 8 rfl))) ?_; clear kk; intro a kk
  refine opk 2 39 kk (frY rfl (k_move rfl (kk.e 9 rfl))) ?_; clear kk; intro a kk
  refine opk 3 40 (v := .string ⟨((((Rfc.spl s 59)[i]).take k)).toArray⟩) kk (frY rfl (k_takeS rfl (kk.e 38 rfl) (kk.e 39 rfl) (by omega))) ?_; clear kk; intro a kk
  have hc := lcontains_any A cap SN (((Rfc.spl s 59)[i]).take k) w3 oS.strs (by omega)
  refine opkc 4 41 kk hc (frY rfl (c_CoS rfl rfl (kk.e 37 rfl) (kk.e 40 rfl))) ?_; clear kk hc
  rintro _ w4 a ⟨rfl, hw4⟩ F0
  rw [decide_eq_false hsn] at F0
  have kk := F0; clear F0
  replace hw4 := hw4.symm
  subst hw4
  refine wp_cond_false (kk.e 41 rfl) ?_
  refine wp_skip ?_
  refine wp_seq ?_
  refine wpr 7 ?_
  refine opk 0 43 kk (frY rfl (k_move rfl (kk.e 6 rfl))) ?_; clear kk; intro a kk
  refine opk 1 44 kk (frY rfl (k_move rfl (kk.e 8 rfl))) ?_; clear kk; intro a kk
  refine opk 2 45 kk (frY rfl (k_move rfl (kk.e 9 rfl))) ?_; clear kk; intro a kk
  refine opk 3 46 (v := .string ⟨((((Rfc.spl s 59)[i]).take k)).toArray⟩) kk (frY rfl (k_takeS rfl (kk.e 44 rfl) (kk.e 45 rfl) (by omega))) ?_; clear kk; intro a kk
  refine opk 4 47 (v := .slice (some ⟨w4.heap.size, 0, none⟩) 1 1) (w' := (w4.alloc (.cells #[.string ⟨((((Rfc.spl s 59)[i]).take k)).toArray⟩] 9))) kk (frY rfl (k_sliceS rfl (kk.e 46 rfl))) ?_; clear kk; intro a kk
  obtain ⟨w5, hw5⟩ : ∃ wn, wn = w4.alloc (.cells #[.string ⟨((((Rfc.spl s 59)[i]).take k)).toArray⟩] 9) := ⟨_, rfl⟩
  rw [← hw5]
  have q5 : Blk w5 w4.heap.size 9 #[.string ⟨((((Rfc.spl s 59)[i]).take k)).toArray⟩] := by rw [hw5]; exact Blk.alloc _ _ _
  have l5 : Below w4.heap.size w4 w5 := by rw [hw5]; exact (Below.refl _ _).alloc (Nat.le_refl _) _
  clear hw5
  replace Q2 := Q2.below l5 Q2.lt
  replace hN := hN.below l5 hN.lt
  replace hS := hS.below l5 hS.lt
  replace hR := hR.exc (Exc.of (b := sb) l5) (by omega) (by omega)
  replace oS := oS.below l5
  replace hb := hb.trans (l5.mono hb.size)
  have zl5 : lo ≤ w5.heap.size := by have := l5.size; omega
  obtain ⟨v', w6, hr, oS6, b6, gr6, hv6⟩ := append_str_c (c := 1) oS (q5.cell 0) (by omega) zl5
  obtain ⟨A', cap', rfl⟩ := oS6.form
  have hoff : ∀ x, x < lo → some x ≠ (Value.slice A SN.length cap).ownBlock := fun x hx e => by have := (World.ownsRow.lt oS x e.symm).1; omega
  replace Q2 := Q2.grown gr6 (hoff _ (by omega))
  replace hN := hN.grown gr6 (hoff _ (by omega))
  replace hS := hS.grown gr6 (hoff _ (by omega))
  replace hR := hR.grown gr6 hv6 (hoff _ (by omega))
  replace hb := hb.trans (b6.mono (by omega))
  have zl6 : lo ≤ w6.heap.size := Nat.le_trans zl5 gr6.size
  replace oS := oS6
  clear oS6 b6 gr6 hv6 hoff
  refine opk 5 48 (v := (.slice A' (SN ++ [(((Rfc.spl s 59)[i]).take k)]).length cap')) kk (frY rfl (k_append rfl rfl (kk.e 43 rfl) (kk.e 47 rfl) hr)) ?_; clear kk; intro a kk
  replace kk := kk.keep [48, 41, 35, 28, 9, 8, 21, 20, 19, 18, 5, 4, 2] rfl
  refine opk 6 6 kk (frY rfl (k_assign rfl (kk.e 48 rfl))) ?_; clear kk; intro a kk
  refine wp_seq ?_
  have hcall : ∀ u, Below w6.heap.size w6 u → Calls Tryz.prog 23 #[.pointer (some ⟨rb, 0, none⟩), .string ⟨((((Rfc.spl s 59)[i]).take k)).toArray⟩, .string ⟨((((Rfc.spl s 59)[i]).drop (k + 1))).toArray⟩] u fun e w' => ∃ v, e = .returned v ∧ (v = .bool true ∧ (∀ r', Rfc.setF p (((Rfc.spl s 59)[i]).drop (k + 1)) r = some r' → RuC w' rb lo r' (g.getD 6 false || p == 6) (Value.slice A' (SN ++ [(((Rfc.spl s 59)[i]).take k)]).length cap').ownBlock) ∧ Exc u.heap.size rb u w') := by
    intro u hu
    have zu := hu.size
    have bu := hb.trans (hu.mono hb.size)
    have := lval_any p hp rb lo r (g.getD 6 false) (((Rfc.spl s 59)[i]).drop (k + 1)) u (hT.below bu) (fun wz e => hT.below (bu.trans ((e.mono bu.size).below (by omega)))) (by rw [List.length_drop]; omega) _ (fun t ht => Nat.lt_of_lt_of_le (World.ownsRow.lt oS t ht).2 zu) (hR.exc (Exc.of (b := sb) hu) (by omega) (by omega)) hq6 ⟨by omega, by omega⟩
    rw [hnm] at this
    refine this.mono ?_
    rintro e wz ⟨vz, ez, vz2, hCz, hEz⟩
    exact ⟨vz, ez, by rw [vz2, hv]; rfl, hCz, hEz⟩
  have hx := fun Q hQ => regP15 a w6 Q hQ rb k ((Rfc.spl s 59)[i]) true _ _ _ _ _ _ _ _ kk.d kk.z (kk.g 5 rfl) (kk.g 8 rfl) (kk.g 9 rfl) (kk.g 2 rfl) (kk.g 4 rfl) (kk.g 6 rfl) (kk.g 18 rfl) (kk.g 19 rfl) (kk.g 20 rfl) hkl hpl hcall
  refine hx _ ?z255 ?z256
  case z255 => (repeat (first | exact hQ | refine blind_then ?_ | refine blind_block ?_))
  case z256 =>
  clear kk hx hcall a
  intro a w7 hs hd h5 h8 h9 h2 h4 h6 h18 h19 h20 h57 hRn e7
  have kk := ((((((((((kn hs hd).p h5).p h8).p h9).p h2).p h4).p h6).p h18).p h19).p h20).p h57; clear hs hd h5 h8 h9 h2 h4 h6 h18 h19 h20 h57
  have zl7 : lo ≤ w7.heap.size := Nat.le_trans zl6 e7.size
  replace Q2 := Q2.exc e7 Q2.lt (by omega)
  replace hN := hN.exc e7 hN.lt (by omega)
  replace hS := hS.exc e7 hS.lt (by omega)
  replace oS := oS.exc e7 (fun t ht => ⟨(World.ownsRow.lt oS t ht).2, by have := (World.ownsRow.lt oS t ht).1; omega⟩)
  replace hb := hb.trans ((e7.mono hb.size).below (by omega))
  refine wp_cond_false (kk.e 57 rfl) ?_
  refine wp_skip ?_
  refine wpr 2 ?_
  refine opk 0 59 (v := .int .i64 (i + 1 : Nat)) kk (frY rfl (o_addI rfl (kk.e 20 rfl) rfl (wrap_small (n := (i : Int) + 1) (by omega) (by omega)))) ?_; clear kk; intro a kk
  replace kk := kk.keep [59, 57, 19, 18, 6, 4, 2, 9, 8, 5] rfl
  refine opk 1 20 kk (frY rfl (k_move rfl (kk.e 59 rfl))) ?_; clear kk; intro a kk
  have hRr := hRn r' hv
  rw [← Rfc.getD6 g8 hp] at hRr
  have hsn2 := hsn0.add g8 hp
  rw [hnm] at hsn2
  refine ⟨⟨i + 1, r', g.set p true, SN ++ [(((Rfc.spl s 59)[i]).take k)], A', cap', kk.d, kk.z, (kk.g 2 rfl), (kk.g 4 rfl), (kk.g 5 rfl), (kk.g 6 rfl), (kk.g 18 rfl), (kk.g 19 rfl), (kk.g 20 rfl), hlt, by rw [hm, estep], by simpa using g8, Q2, hRr, hN, hS, hsn2, oS, by simp; omega, ⟨oo.1, oo.2.1, oo.2.2.1, oo.2.2.2.1, zl7⟩, hb⟩, ?_⟩
  rw [(kk.g 20 rfl)]
  simp only [intOf]
  omega
end Go.Proofs.YtjdjekpbjnkliaaGreatDoor
