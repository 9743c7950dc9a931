/-
  The law RuleFewer: its regions that draw their order, and its walk, out of the contracts.
-/
import Derived.Test.YtfhhlebadmkckaaDoorSlc
namespace Go.Proofs.YtfhhlebadmkckaaDoor
open Go.RowKit
noncomputable def ruleFewerBody : Code := Tryd.f4.body.getD .skip

theorem lists_any' (f iv c u : Int) (AM AD AW AP : Option Addr) (cM cD cW cP : Nat) (M D : List Int) (W : List (Int × Int)) (P : List Int) (w : World) : Calls Tryd.prog 12 #[.agg #[.int .i64 f, .int .i64 iv, .int .i64 c, .int .i64 u, .slice AM M.length cM, .slice AD D.length cD, .slice AW W.length cW, .slice AP P.length cP]] w fun e w' => ∃ v, e = .returned v ∧ v = .bool (some3 M D W) ∧ Below w.heap.size w w' :=
  (lists_any f iv c u AM AD AW AP cM cD cW cP M D W P w).mono fun _ _ h => ⟨_, h.1, rfl, h.2⟩

noncomputable def few6 : Array Oper := (Tryd.f4.body.bind (regOf 6)).getD #[]
set_option maxRecDepth 100000 in
set_option maxHeartbeats 1000000 in
theorem regFew6 (a : Act) (w w0 w0' : World) (Q : Exit → Act → World → Prop) (hQ : Blind Q) (b b1 b2 c1 c2 : Nat) (f iv c u n m : Int) (A1 A2 : Option Addr) (X : List Int) (Y : List Int) (v1 v2 q1 q2 : Value) (df : List _) (hd : a.defers = df) (hs : a.tmps.size = 78)
    (h1 : a.tmps.getD 1 undef = .int .u8 n) (h2 : a.tmps.getD 2 undef = .int .u8 m) (h3 : a.tmps.getD 3 undef = q1) (h4 : a.tmps.getD 4 undef = q2) (h11 : a.tmps.getD 11 undef = .pointer (some ⟨b, 0, none⟩))
    (hC : Blk w b 39 #[.int .i64 f, .int .i64 iv, .int .i64 c, .int .i64 u, .slice A1 X.length c1, .slice A2 Y.length c2, v1, v2]) (oA : OwnI w0 b1 (.slice A1 X.length c1) X) (oB : OwnI w0' b2 (.slice A2 Y.length c2) Y) (hn : 0 ≤ n ∧ n ≤ 255) (hm : 0 ≤ m ∧ m ≤ 255) (lX : X.length ≤ 1000) (lY : Y.length ≤ 1000)
    (hR : ∀ (a' : Act) (w' : World), a'.tmps.size = 78 → a'.defers = df → a'.tmps.getD 3 undef = q1 → a'.tmps.getD 4 undef = q2 → a'.tmps.getD 11 undef = .pointer (some ⟨b, 0, none⟩) → Blk w' b 39 #[.int .i64 f, .int .i64 iv, .int .i64 c, .int .i64 u, .slice (cutA A1 c1 (cutN n (X).length) 1) (List.drop (cutN n (X).length) (X)).length (c1 - cutN n (X).length), .slice A2 (List.take (cutN m (Y).length) (Y)).length c2, v1, v2] → (∀ B, Exc B b w w') → Q .normal a' w') :
    (Code.region 6 few6 true).wp Tryd.prog Q a w := by
  conv => arg 2; arg 2; whnf
  replace hR : ∀ (a' : Act) (w' : World), a'.tmps.size = 78 → a'.defers = df → a'.tmps.getD 3 undef = q1 → a'.tmps.getD 4 undef = q2 → a'.tmps.getD 11 undef = .pointer (some ⟨b, 0, none⟩) → Blk w' b 39 #[.int .i64 f, .int .i64 iv, .int .i64 c, .int .i64 u, .slice (cutA A1 c1 (cutN n (X).length) 1) (List.drop (cutN n (X).length) (X)).length (c1 - cutN n (X).length), .slice A2 (List.take (cutN m (Y).length) (Y)).length c2, v1, v2] → (∀ B, Exc B b w.drew w') → Q .normal a' w' := fun a' w' e1 e2 e3 e4 e5 e6 e7 => hR a' w' e1 e2 e3 e4 e5 e6 (fun B => (show Exc B b w w.drew from ⟨rfl, rfl, rfl, Nat.le_refl _, fun _ _ _ => rfl⟩).trans (e7 B))
  replace hC : Blk w.drew b 39 #[.int .i64 f, .int .i64 iv, .int .i64 c, .int .i64 u, .slice A1 X.length c1, .slice A2 Y.length c2, v1, v2] := hC
  have cX := cutN_le n X.length
  have cY := cutN_le m Y.length
  refine wp_region_late (z := 21) (C := fun w1 => Blk w1 b 39 #[.int .i64 f, .int .i64 iv, .int .i64 c, .int .i64 u, .slice A1 X.length c1, .slice A2 Y.length c2, v1, v2]) (by kernel_rfl) ?_
  generalize w.drew = w at *
  refine lateF 0 19 (v := .pointer (some ⟨b, 4, none⟩)) hQ (by kernel_rfl) (by rw [hs]; decide) (by kernel_rfl) (by kernel_rfl) (by kernel_rfl) (by decide) (fun _ => hC) ?z1 ?z2
  case z1 => (intro o ho; obtain rfl := Option.some.inj ho; exact Or.inl ⟨rfl, fun w1 h1w => k_field4 rfl (ev_tmp h11)⟩)
  case z2 =>
  intro a F0
  replace hs := F0.z.trans hs
  replace hd := F0.e.trans hd
  replace h1 := (F0.n 1 (by decide)).trans h1
  replace h2 := (F0.n 2 (by decide)).trans h2
  replace h3 := (F0.n 3 (by decide)).trans h3
  replace h4 := (F0.n 4 (by decide)).trans h4
  replace h11 := (F0.n 11 (by decide)).trans h11
  have h19 := F0.s
  clear F0
  refine lateL 1 20 (v := .slice A1 X.length c1) hQ (by kernel_rfl) (by rw [hs]; decide) (by kernel_rfl) (by kernel_rfl) (by kernel_rfl) (by kernel_rfl) (by kernel_rfl) hC ?z3 ?z4
  case z3 => (intro o ho; obtain rfl := Option.some.inj ho; exact Or.inl ⟨rfl, fun w1 h1w => k_loadL rfl (ev_tmp h19) (h1w.cell 4)⟩)
  case z4 =>
  intro a F0
  replace hs := F0.z.trans hs
  replace hd := F0.e.trans hd
  replace h1 := (F0.n 1 (by decide)).trans h1
  replace h2 := (F0.n 2 (by decide)).trans h2
  replace h3 := (F0.n 3 (by decide)).trans h3
  replace h4 := (F0.n 4 (by decide)).trans h4
  replace h11 := (F0.n 11 (by decide)).trans h11
  replace h19 := (F0.n 19 (by decide)).trans h19
  have h20 := F0.s
  clear F0
  refine lateF 2 21 (v := .int .u8 n) hQ (by kernel_rfl) (by rw [hs]; decide) (by kernel_rfl) (by kernel_rfl) (by kernel_rfl) (by decide) (fun _ => hC) ?z5 ?z6
  case z5 => (intro o ho; obtain rfl := Option.some.inj ho; exact Or.inl ⟨rfl, fun w1 h1w => k_move rfl (ev_tmp h1)⟩)
  case z6 =>
  intro a F0
  replace hs := F0.z.trans hs
  replace hd := F0.e.trans hd
  replace h1 := (F0.n 1 (by decide)).trans h1
  replace h2 := (F0.n 2 (by decide)).trans h2
  replace h3 := (F0.n 3 (by decide)).trans h3
  replace h4 := (F0.n 4 (by decide)).trans h4
  replace h11 := (F0.n 11 (by decide)).trans h11
  replace h19 := (F0.n 19 (by decide)).trans h19
  replace h20 := (F0.n 20 (by decide)).trans h20
  have h21 := F0.s
  clear F0
  refine lateF 3 22 (v := .int .i64 n) hQ (by kernel_rfl) (by rw [hs]; decide) (by kernel_rfl) (by kernel_rfl) (by kernel_rfl) (by decide) (fun _ => hC) ?z7 ?z8
  case z7 => (intro o ho; obtain rfl := Option.some.inj ho; exact Or.inl ⟨rfl, fun w1 h1w => o_convBI rfl (ev_tmp h21) (wrap_small (by omega) (by omega))⟩)
  case z8 =>
  intro a F0
  replace hs := F0.z.trans hs
  replace hd := F0.e.trans hd
  replace h1 := (F0.n 1 (by decide)).trans h1
  replace h2 := (F0.n 2 (by decide)).trans h2
  replace h3 := (F0.n 3 (by decide)).trans h3
  replace h4 := (F0.n 4 (by decide)).trans h4
  replace h11 := (F0.n 11 (by decide)).trans h11
  replace h19 := (F0.n 19 (by decide)).trans h19
  replace h20 := (F0.n 20 (by decide)).trans h20
  replace h21 := (F0.n 21 (by decide)).trans h21
  have h22 := F0.s
  clear F0
  refine lateF 4 23 (v := .pointer (some ⟨b, 4, none⟩)) hQ (by kernel_rfl) (by rw [hs]; decide) (by kernel_rfl) (by kernel_rfl) (by kernel_rfl) (by decide) (fun _ => hC) ?z9 ?z10
  case z9 => (intro o ho; obtain rfl := Option.some.inj ho; exact Or.inl ⟨rfl, fun w1 h1w => k_field4 rfl (ev_tmp h11)⟩)
  case z10 =>
  intro a F0
  replace hs := F0.z.trans hs
  replace hd := F0.e.trans hd
  replace h1 := (F0.n 1 (by decide)).trans h1
  replace h2 := (F0.n 2 (by decide)).trans h2
  replace h3 := (F0.n 3 (by decide)).trans h3
  replace h4 := (F0.n 4 (by decide)).trans h4
  replace h11 := (F0.n 11 (by decide)).trans h11
  replace h19 := (F0.n 19 (by decide)).trans h19
  replace h20 := (F0.n 20 (by decide)).trans h20
  replace h21 := (F0.n 21 (by decide)).trans h21
  replace h22 := (F0.n 22 (by decide)).trans h22
  have h23 := F0.s
  clear F0
  refine lateL 5 24 (v := .slice A1 X.length c1) hQ (by kernel_rfl) (by rw [hs]; decide) (by kernel_rfl) (by kernel_rfl) (by kernel_rfl) (by kernel_rfl) (by kernel_rfl) hC ?z11 ?z12
  case z11 => (intro o ho; obtain rfl := Option.some.inj ho; exact Or.inl ⟨rfl, fun w1 h1w => k_loadL rfl (ev_tmp h23) (h1w.cell 4)⟩)
  case z12 =>
  intro a F0
  replace hs := F0.z.trans hs
  replace hd := F0.e.trans hd
  replace h1 := (F0.n 1 (by decide)).trans h1
  replace h2 := (F0.n 2 (by decide)).trans h2
  replace h3 := (F0.n 3 (by decide)).trans h3
  replace h4 := (F0.n 4 (by decide)).trans h4
  replace h11 := (F0.n 11 (by decide)).trans h11
  replace h19 := (F0.n 19 (by decide)).trans h19
  replace h20 := (F0.n 20 (by decide)).trans h20
  replace h21 := (F0.n 21 (by decide)).trans h21
  replace h22 := (F0.n 22 (by decide)).trans h22
  replace h23 := (F0.n 23 (by decide)).trans h23
  have h24 := F0.s
  clear F0
  refine lateF 6 25 (v := .int .i64 X.length) hQ (by kernel_rfl) (by rw [hs]; decide) (by kernel_rfl) (by kernel_rfl) (by kernel_rfl) (by decide) (fun _ => hC) ?z13 ?z14
  case z13 => (intro o ho; obtain rfl := Option.some.inj ho; exact Or.inl ⟨rfl, fun w1 h1w => k_lenL rfl (ev_tmp h24)⟩)
  case z14 =>
  intro a F0
  replace hs := F0.z.trans hs
  replace hd := F0.e.trans hd
  replace h1 := (F0.n 1 (by decide)).trans h1
  replace h2 := (F0.n 2 (by decide)).trans h2
  replace h3 := (F0.n 3 (by decide)).trans h3
  replace h4 := (F0.n 4 (by decide)).trans h4
  replace h11 := (F0.n 11 (by decide)).trans h11
  replace h19 := (F0.n 19 (by decide)).trans h19
  replace h20 := (F0.n 20 (by decide)).trans h20
  replace h21 := (F0.n 21 (by decide)).trans h21
  replace h22 := (F0.n 22 (by decide)).trans h22
  replace h23 := (F0.n 23 (by decide)).trans h23
  replace h24 := (F0.n 24 (by decide)).trans h24
  have h25 := F0.s
  clear F0
  refine lateF 7 26 (v := .int .i64 ((X.length : Int) + 1)) hQ (by kernel_rfl) (by rw [hs]; decide) (by kernel_rfl) (by kernel_rfl) (by kernel_rfl) (by decide) (fun _ => hC) ?z15 ?z16
  case z15 => (intro o ho; obtain rfl := Option.some.inj ho; exact Or.inl ⟨rfl, fun w1 h1w => o_addI rfl (ev_tmp h25) rfl (wrap_small (by omega) (by omega))⟩)
  case z16 =>
  intro a F0
  replace hs := F0.z.trans hs
  replace hd := F0.e.trans hd
  replace h1 := (F0.n 1 (by decide)).trans h1
  replace h2 := (F0.n 2 (by decide)).trans h2
  replace h3 := (F0.n 3 (by decide)).trans h3
  replace h4 := (F0.n 4 (by decide)).trans h4
  replace h11 := (F0.n 11 (by decide)).trans h11
  replace h19 := (F0.n 19 (by decide)).trans h19
  replace h20 := (F0.n 20 (by decide)).trans h20
  replace h21 := (F0.n 21 (by decide)).trans h21
  replace h22 := (F0.n 22 (by decide)).trans h22
  replace h23 := (F0.n 23 (by decide)).trans h23
  replace h24 := (F0.n 24 (by decide)).trans h24
  replace h25 := (F0.n 25 (by decide)).trans h25
  have h26 := F0.s
  clear F0
  refine lateF 8 27 (v := .int .i64 (cutN n X.length)) hQ (by kernel_rfl) (by rw [hs]; decide) (by kernel_rfl) (by kernel_rfl) (by kernel_rfl) (by decide) (fun _ => hC) ?z17 ?z18
  case z17 => (intro o ho; obtain rfl := Option.some.inj ho; exact Or.inl ⟨rfl, fun w1 h1w => o_remI rfl (ev_tmp h22) (ev_tmp h26) (by omega) (cutN_eq hn.1)⟩)
  case z18 =>
  intro a F0
  replace hs := F0.z.trans hs
  replace hd := F0.e.trans hd
  replace h1 := (F0.n 1 (by decide)).trans h1
  replace h2 := (F0.n 2 (by decide)).trans h2
  replace h3 := (F0.n 3 (by decide)).trans h3
  replace h4 := (F0.n 4 (by decide)).trans h4
  replace h11 := (F0.n 11 (by decide)).trans h11
  replace h19 := (F0.n 19 (by decide)).trans h19
  replace h20 := (F0.n 20 (by decide)).trans h20
  replace h21 := (F0.n 21 (by decide)).trans h21
  replace h22 := (F0.n 22 (by decide)).trans h22
  replace h23 := (F0.n 23 (by decide)).trans h23
  replace h24 := (F0.n 24 (by decide)).trans h24
  replace h25 := (F0.n 25 (by decide)).trans h25
  replace h26 := (F0.n 26 (by decide)).trans h26
  have h27 := F0.s
  clear F0
  refine lateF 9 28 (v := .slice (cutA A1 c1 (cutN n (X).length) 1) (List.drop (cutN n (X).length) (X)).length (c1 - cutN n (X).length)) hQ (by kernel_rfl) (by rw [hs]; decide) (by kernel_rfl) (by kernel_rfl) (by kernel_rfl) (by decide) (fun _ => hC) ?z19 ?z20
  case z19 => (intro o ho; obtain rfl := Option.some.inj ho; exact Or.inl ⟨rfl, fun w1 h1w => k_dropI rfl (ev_tmp h20) (ev_tmp h27) oA cX⟩)
  case z20 =>
  intro a F0
  replace hs := F0.z.trans hs
  replace hd := F0.e.trans hd
  replace h1 := (F0.n 1 (by decide)).trans h1
  replace h2 := (F0.n 2 (by decide)).trans h2
  replace h3 := (F0.n 3 (by decide)).trans h3
  replace h4 := (F0.n 4 (by decide)).trans h4
  replace h11 := (F0.n 11 (by decide)).trans h11
  replace h19 := (F0.n 19 (by decide)).trans h19
  replace h20 := (F0.n 20 (by decide)).trans h20
  replace h21 := (F0.n 21 (by decide)).trans h21
  replace h22 := (F0.n 22 (by decide)).trans h22
  replace h23 := (F0.n 23 (by decide)).trans h23
  replace h24 := (F0.n 24 (by decide)).trans h24
  replace h25 := (F0.n 25 (by decide)).trans h25
  replace h26 := (F0.n 26 (by decide)).trans h26
  replace h27 := (F0.n 27 (by decide)).trans h27
  have h28 := F0.s
  clear F0
  refine lateF 10 29 (v := .pointer (some ⟨b, 5, none⟩)) hQ (by kernel_rfl) (by rw [hs]; decide) (by kernel_rfl) (by kernel_rfl) (by kernel_rfl) (by decide) (fun _ => hC) ?z21 ?z22
  case z21 => (intro o ho; obtain rfl := Option.some.inj ho; exact Or.inl ⟨rfl, fun w1 h1w => k_field5 rfl (ev_tmp h11)⟩)
  case z22 =>
  intro a F0
  replace hs := F0.z.trans hs
  replace hd := F0.e.trans hd
  replace h1 := (F0.n 1 (by decide)).trans h1
  replace h2 := (F0.n 2 (by decide)).trans h2
  replace h3 := (F0.n 3 (by decide)).trans h3
  replace h4 := (F0.n 4 (by decide)).trans h4
  replace h11 := (F0.n 11 (by decide)).trans h11
  replace h19 := (F0.n 19 (by decide)).trans h19
  replace h20 := (F0.n 20 (by decide)).trans h20
  replace h21 := (F0.n 21 (by decide)).trans h21
  replace h22 := (F0.n 22 (by decide)).trans h22
  replace h23 := (F0.n 23 (by decide)).trans h23
  replace h24 := (F0.n 24 (by decide)).trans h24
  replace h25 := (F0.n 25 (by decide)).trans h25
  replace h26 := (F0.n 26 (by decide)).trans h26
  replace h27 := (F0.n 27 (by decide)).trans h27
  replace h28 := (F0.n 28 (by decide)).trans h28
  have h29 := F0.s
  clear F0
  refine lateL 11 30 (v := .slice A2 Y.length c2) hQ (by kernel_rfl) (by rw [hs]; decide) (by kernel_rfl) (by kernel_rfl) (by kernel_rfl) (by kernel_rfl) (by kernel_rfl) hC ?z23 ?z24
  case z23 => (intro o ho; obtain rfl := Option.some.inj ho; exact Or.inl ⟨rfl, fun w1 h1w => k_loadL rfl (ev_tmp h29) (h1w.cell 5)⟩)
  case z24 =>
  intro a F0
  replace hs := F0.z.trans hs
  replace hd := F0.e.trans hd
  replace h1 := (F0.n 1 (by decide)).trans h1
  replace h2 := (F0.n 2 (by decide)).trans h2
  replace h3 := (F0.n 3 (by decide)).trans h3
  replace h4 := (F0.n 4 (by decide)).trans h4
  replace h11 := (F0.n 11 (by decide)).trans h11
  replace h19 := (F0.n 19 (by decide)).trans h19
  replace h20 := (F0.n 20 (by decide)).trans h20
  replace h21 := (F0.n 21 (by decide)).trans h21
  replace h22 := (F0.n 22 (by decide)).trans h22
  replace h23 := (F0.n 23 (by decide)).trans h23
  replace h24 := (F0.n 24 (by decide)).trans h24
  replace h25 := (F0.n 25 (by decide)).trans h25
  replace h26 := (F0.n 26 (by decide)).trans h26
  replace h27 := (F0.n 27 (by decide)).trans h27
  replace h28 := (F0.n 28 (by decide)).trans h28
  replace h29 := (F0.n 29 (by decide)).trans h29
  have h30 := F0.s
  clear F0
  refine lateF 12 31 (v := .int .u8 m) hQ (by kernel_rfl) (by rw [hs]; decide) (by kernel_rfl) (by kernel_rfl) (by kernel_rfl) (by decide) (fun _ => hC) ?z25 ?z26
  case z25 => (intro o ho; obtain rfl := Option.some.inj ho; exact Or.inl ⟨rfl, fun w1 h1w => k_move rfl (ev_tmp h2)⟩)
  case z26 =>
  intro a F0
  replace hs := F0.z.trans hs
  replace hd := F0.e.trans hd
  replace h1 := (F0.n 1 (by decide)).trans h1
  replace h2 := (F0.n 2 (by decide)).trans h2
  replace h3 := (F0.n 3 (by decide)).trans h3
  replace h4 := (F0.n 4 (by decide)).trans h4
  replace h11 := (F0.n 11 (by decide)).trans h11
  replace h19 := (F0.n 19 (by decide)).trans h19
  replace h20 := (F0.n 20 (by decide)).trans h20
  replace h21 := (F0.n 21 (by decide)).trans h21
  replace h22 := (F0.n 22 (by decide)).trans h22
  replace h23 := (F0.n 23 (by decide)).trans h23
  replace h24 := (F0.n 24 (by decide)).trans h24
  replace h25 := (F0.n 25 (by decide)).trans h25
  replace h26 := (F0.n 26 (by decide)).trans h26
  replace h27 := (F0.n 27 (by decide)).trans h27
  replace h28 := (F0.n 28 (by decide)).trans h28
  replace h29 := (F0.n 29 (by decide)).trans h29
  replace h30 := (F0.n 30 (by decide)).trans h30
  have h31 := F0.s
  clear F0
  refine lateF 13 32 (v := .int .i64 m) hQ (by kernel_rfl) (by rw [hs]; decide) (by kernel_rfl) (by kernel_rfl) (by kernel_rfl) (by decide) (fun _ => hC) ?z27 ?z28
  case z27 => (intro o ho; obtain rfl := Option.some.inj ho; exact Or.inl ⟨rfl, fun w1 h1w => o_convBI rfl (ev_tmp h31) (wrap_small (by omega) (by omega))⟩)
  case z28 =>
  intro a F0
  replace hs := F0.z.trans hs
  replace hd := F0.e.trans hd
  replace h1 := (F0.n 1 (by decide)).trans h1
  replace h2 := (F0.n 2 (by decide)).trans h2
  replace h3 := (F0.n 3 (by decide)).trans h3
  replace h4 := (F0.n 4 (by decide)).trans h4
  replace h11 := (F0.n 11 (by decide)).trans h11
  replace h19 := (F0.n 19 (by decide)).trans h19
  replace h20 := (F0.n 20 (by decide)).trans h20
  replace h21 := (F0.n 21 (by decide)).trans h21
  replace h22 := (F0.n 22 (by decide)).trans h22
  replace h23 := (F0.n 23 (by decide)).trans h23
  replace h24 := (F0.n 24 (by decide)).trans h24
  replace h25 := (F0.n 25 (by decide)).trans h25
  replace h26 := (F0.n 26 (by decide)).trans h26
  replace h27 := (F0.n 27 (by decide)).trans h27
  replace h28 := (F0.n 28 (by decide)).trans h28
  replace h29 := (F0.n 29 (by decide)).trans h29
  replace h30 := (F0.n 30 (by decide)).trans h30
  replace h31 := (F0.n 31 (by decide)).trans h31
  have h32 := F0.s
  clear F0
  refine lateF 14 33 (v := .pointer (some ⟨b, 5, none⟩)) hQ (by kernel_rfl) (by rw [hs]; decide) (by kernel_rfl) (by kernel_rfl) (by kernel_rfl) (by decide) (fun _ => hC) ?z29 ?z30
  case z29 => (intro o ho; obtain rfl := Option.some.inj ho; exact Or.inl ⟨rfl, fun w1 h1w => k_field5 rfl (ev_tmp h11)⟩)
  case z30 =>
  intro a F0
  replace hs := F0.z.trans hs
  replace hd := F0.e.trans hd
  replace h1 := (F0.n 1 (by decide)).trans h1
  replace h2 := (F0.n 2 (by decide)).trans h2
  replace h3 := (F0.n 3 (by decide)).trans h3
  replace h4 := (F0.n 4 (by decide)).trans h4
  replace h11 := (F0.n 11 (by decide)).trans h11
  replace h19 := (F0.n 19 (by decide)).trans h19
  replace h20 := (F0.n 20 (by decide)).trans h20
  replace h21 := (F0.n 21 (by decide)).trans h21
  replace h22 := (F0.n 22 (by decide)).trans h22
  replace h23 := (F0.n 23 (by decide)).trans h23
  replace h24 := (F0.n 24 (by decide)).trans h24
  replace h25 := (F0.n 25 (by decide)).trans h25
  replace h26 := (F0.n 26 (by decide)).trans h26
  replace h27 := (F0.n 27 (by decide)).trans h27
  replace h28 := (F0.n 28 (by decide)).trans h28
  replace h29 := (F0.n 29 (by decide)).trans h29
  replace h30 := (F0.n 30 (by decide)).trans h30
  replace h31 := (F0.n 31 (by decide)).trans h31
  replace h32 := (F0.n 32 (by decide)).trans h32
  have h33 := F0.s
  clear F0
  refine lateL 15 34 (v := .slice A2 Y.length c2) hQ (by kernel_rfl) (by rw [hs]; decide) (by kernel_rfl) (by kernel_rfl) (by kernel_rfl) (by kernel_rfl) (by kernel_rfl) hC ?z31 ?z32
  case z31 => (intro o ho; obtain rfl := Option.some.inj ho; exact Or.inl ⟨rfl, fun w1 h1w => k_loadL rfl (ev_tmp h33) (h1w.cell 5)⟩)
  case z32 =>
  intro a F0
  replace hs := F0.z.trans hs
  replace hd := F0.e.trans hd
  replace h1 := (F0.n 1 (by decide)).trans h1
  replace h2 := (F0.n 2 (by decide)).trans h2
  replace h3 := (F0.n 3 (by decide)).trans h3
  replace h4 := (F0.n 4 (by decide)).trans h4
  replace h11 := (F0.n 11 (by decide)).trans h11
  replace h19 := (F0.n 19 (by decide)).trans h19
  replace h20 := (F0.n 20 (by decide)).trans h20
  replace h21 := (F0.n 21 (by decide)).trans h21
  replace h22 := (F0.n 22 (by decide)).trans h22
  replace h23 := (F0.n 23 (by decide)).trans h23
  replace h24 := (F0.n 24 (by decide)).trans h24
  replace h25 := (F0.n 25 (by decide)).trans h25
  replace h26 := (F0.n 26 (by decide)).trans h26
  replace h27 := (F0.n 27 (by decide)).trans h27
  replace h28 := (F0.n 28 (by decide)).trans h28
  replace h29 := (F0.n 29 (by decide)).trans h29
  replace h30 := (F0.n 30 (by decide)).trans h30
  replace h31 := (F0.n 31 (by decide)).trans h31
  replace h32 := (F0.n 32 (by decide)).trans h32
  replace h33 := (F0.n 33 (by decide)).trans h33
  have h34 := F0.s
  clear F0
  refine lateF 16 35 (v := .int .i64 Y.length) hQ (by kernel_rfl) (by rw [hs]; decide) (by kernel_rfl) (by kernel_rfl) (by kernel_rfl) (by decide) (fun _ => hC) ?z33 ?z34
  case z33 => (intro o ho; obtain rfl := Option.some.inj ho; exact Or.inl ⟨rfl, fun w1 h1w => k_lenL rfl (ev_tmp h34)⟩)
  case z34 =>
  intro a F0
  replace hs := F0.z.trans hs
  replace hd := F0.e.trans hd
  replace h1 := (F0.n 1 (by decide)).trans h1
  replace h2 := (F0.n 2 (by decide)).trans h2
  replace h3 := (F0.n 3 (by decide)).trans h3
  replace h4 := (F0.n 4 (by decide)).trans h4
  replace h11 := (F0.n 11 (by decide)).trans h11
  replace h19 := (F0.n 19 (by decide)).trans h19
  replace h20 := (F0.n 20 (by decide)).trans h20
  replace h21 := (F0.n 21 (by decide)).trans h21
  replace h22 := (F0.n 22 (by decide)).trans h22
  replace h23 := (F0.n 23 (by decide)).trans h23
  replace h24 := (F0.n 24 (by decide)).trans h24
  replace h25 := (F0.n 25 (by decide)).trans h25
  replace h26 := (F0.n 26 (by decide)).trans h26
  replace h27 := (F0.n 27 (by decide)).trans h27
  replace h28 := (F0.n 28 (by decide)).trans h28
  replace h29 := (F0.n 29 (by decide)).trans h29
  replace h30 := (F0.n 30 (by decide)).trans h30
  replace h31 := (F0.n 31 (by decide)).trans h31
  replace h32 := (F0.n 32 (by decide)).trans h32
  replace h33 := (F0.n 33 (by decide)).trans h33
  replace h34 := (F0.n 34 (by decide)).trans h34
  have h35 := F0.s
  clear F0
  refine lateF 17 36 (v := .int .i64 ((Y.length : Int) + 1)) hQ (by kernel_rfl) (by rw [hs]; decide) (by kernel_rfl) (by kernel_rfl) (by kernel_rfl) (by decide) (fun _ => hC) ?z35 ?z36
  case z35 => (intro o ho; obtain rfl := Option.some.inj ho; exact Or.inl ⟨rfl, fun w1 h1w => o_addI rfl (ev_tmp h35) rfl (wrap_small (by omega) (by omega))⟩)
  case z36 =>
  intro a F0
  replace hs := F0.z.trans hs
  replace hd := F0.e.trans hd
  replace h1 := (F0.n 1 (by decide)).trans h1
  replace h2 := (F0.n 2 (by decide)).trans h2
  replace h3 := (F0.n 3 (by decide)).trans h3
  replace h4 := (F0.n 4 (by decide)).trans h4
  replace h11 := (F0.n 11 (by decide)).trans h11
  replace h19 := (F0.n 19 (by decide)).trans h19
  replace h20 := (F0.n 20 (by decide)).trans h20
  replace h21 := (F0.n 21 (by decide)).trans h21
  replace h22 := (F0.n 22 (by decide)).trans h22
  replace h23 := (F0.n 23 (by decide)).trans h23
  replace h24 := (F0.n 24 (by decide)).trans h24
  replace h25 := (F0.n 25 (by decide)).trans h25
  replace h26 := (F0.n 26 (by decide)).trans h26
  replace h27 := (F0.n 27 (by decide)).trans h27
  replace h28 := (F0.n 28 (by decide)).trans h28
  replace h29 := (F0.n 29 (by decide)).trans h29
  replace h30 := (F0.n 30 (by decide)).trans h30
  replace h31 := (F0.n 31 (by decide)).trans h31
  replace h32 := (F0.n 32 (by decide)).trans h32
  replace h33 := (F0.n 33 (by decide)).trans h33
  replace h34 := (F0.n 34 (by decide)).trans h34
  replace h35 := (F0.n 35 (by decide)).trans h35
  have h36 := F0.s
  clear F0
  refine lateF 18 37 (v := .int .i64 (cutN m Y.length)) hQ (by kernel_rfl) (by rw [hs]; decide) (by kernel_rfl) (by kernel_rfl) (by kernel_rfl) (by decide) (fun _ => hC) ?z37 ?z38
  case z37 => (intro o ho; obtain rfl := Option.some.inj ho; exact Or.inl ⟨rfl, fun w1 h1w => o_remI rfl (ev_tmp h32) (ev_tmp h36) (by omega) (cutN_eq hm.1)⟩)
  case z38 =>
  intro a F0
  replace hs := F0.z.trans hs
  replace hd := F0.e.trans hd
  replace h1 := (F0.n 1 (by decide)).trans h1
  replace h2 := (F0.n 2 (by decide)).trans h2
  replace h3 := (F0.n 3 (by decide)).trans h3
  replace h4 := (F0.n 4 (by decide)).trans h4
  replace h11 := (F0.n 11 (by decide)).trans h11
  replace h19 := (F0.n 19 (by decide)).trans h19
  replace h20 := (F0.n 20 (by decide)).trans h20
  replace h21 := (F0.n 21 (by decide)).trans h21
  replace h22 := (F0.n 22 (by decide)).trans h22
  replace h23 := (F0.n 23 (by decide)).trans h23
  replace h24 := (F0.n 24 (by decide)).trans h24
  replace h25 := (F0.n 25 (by decide)).trans h25
  replace h26 := (F0.n 26 (by decide)).trans h26
  replace h27 := (F0.n 27 (by decide)).trans h27
  replace h28 := (F0.n 28 (by decide)).trans h28
  replace h29 := (F0.n 29 (by decide)).trans h29
  replace h30 := (F0.n 30 (by decide)).trans h30
  replace h31 := (F0.n 31 (by decide)).trans h31
  replace h32 := (F0.n 32 (by decide)).trans h32
  replace h33 := (F0.n 33 (by decide)).trans h33
  replace h34 := (F0.n 34 (by decide)).trans h34
  replace h35 := (F0.n 35 (by decide)).trans h35
  replace h36 := (F0.n 36 (by decide)).trans h36
  have h37 := F0.s
  clear F0
  refine lateF 19 38 (v := .slice A2 (List.take (cutN m (Y).length) (Y)).length c2) hQ (by kernel_rfl) (by rw [hs]; decide) (by kernel_rfl) (by kernel_rfl) (by kernel_rfl) (by decide) (fun _ => hC) ?z39 ?z40
  case z39 => (intro o ho; obtain rfl := Option.some.inj ho; exact Or.inl ⟨rfl, fun w1 h1w => k_takeI rfl (ev_tmp h30) (ev_tmp h37) oB cY⟩)
  case z40 =>
  intro a F0
  replace hs := F0.z.trans hs
  replace hd := F0.e.trans hd
  replace h1 := (F0.n 1 (by decide)).trans h1
  replace h2 := (F0.n 2 (by decide)).trans h2
  replace h3 := (F0.n 3 (by decide)).trans h3
  replace h4 := (F0.n 4 (by decide)).trans h4
  replace h11 := (F0.n 11 (by decide)).trans h11
  replace h19 := (F0.n 19 (by decide)).trans h19
  replace h20 := (F0.n 20 (by decide)).trans h20
  replace h21 := (F0.n 21 (by decide)).trans h21
  replace h22 := (F0.n 22 (by decide)).trans h22
  replace h23 := (F0.n 23 (by decide)).trans h23
  replace h24 := (F0.n 24 (by decide)).trans h24
  replace h25 := (F0.n 25 (by decide)).trans h25
  replace h26 := (F0.n 26 (by decide)).trans h26
  replace h27 := (F0.n 27 (by decide)).trans h27
  replace h28 := (F0.n 28 (by decide)).trans h28
  replace h29 := (F0.n 29 (by decide)).trans h29
  replace h30 := (F0.n 30 (by decide)).trans h30
  replace h31 := (F0.n 31 (by decide)).trans h31
  replace h32 := (F0.n 32 (by decide)).trans h32
  replace h33 := (F0.n 33 (by decide)).trans h33
  replace h34 := (F0.n 34 (by decide)).trans h34
  replace h35 := (F0.n 35 (by decide)).trans h35
  replace h36 := (F0.n 36 (by decide)).trans h36
  replace h37 := (F0.n 37 (by decide)).trans h37
  have h38 := F0.s
  clear F0
  refine lateF 20 39 (v := .pointer (some ⟨b, 4, none⟩)) hQ (by kernel_rfl) (by rw [hs]; decide) (by kernel_rfl) (by kernel_rfl) (by kernel_rfl) (by decide) (fun _ => hC) ?z41 ?z42
  case z41 => (intro o ho; obtain rfl := Option.some.inj ho; exact Or.inl ⟨rfl, fun w1 h1w => k_field4 rfl (ev_tmp h11)⟩)
  case z42 =>
  intro a F0
  replace hs := F0.z.trans hs
  replace hd := F0.e.trans hd
  replace h1 := (F0.n 1 (by decide)).trans h1
  replace h2 := (F0.n 2 (by decide)).trans h2
  replace h3 := (F0.n 3 (by decide)).trans h3
  replace h4 := (F0.n 4 (by decide)).trans h4
  replace h11 := (F0.n 11 (by decide)).trans h11
  replace h19 := (F0.n 19 (by decide)).trans h19
  replace h20 := (F0.n 20 (by decide)).trans h20
  replace h21 := (F0.n 21 (by decide)).trans h21
  replace h22 := (F0.n 22 (by decide)).trans h22
  replace h23 := (F0.n 23 (by decide)).trans h23
  replace h24 := (F0.n 24 (by decide)).trans h24
  replace h25 := (F0.n 25 (by decide)).trans h25
  replace h26 := (F0.n 26 (by decide)).trans h26
  replace h27 := (F0.n 27 (by decide)).trans h27
  replace h28 := (F0.n 28 (by decide)).trans h28
  replace h29 := (F0.n 29 (by decide)).trans h29
  replace h30 := (F0.n 30 (by decide)).trans h30
  replace h31 := (F0.n 31 (by decide)).trans h31
  replace h32 := (F0.n 32 (by decide)).trans h32
  replace h33 := (F0.n 33 (by decide)).trans h33
  replace h34 := (F0.n 34 (by decide)).trans h34
  replace h35 := (F0.n 35 (by decide)).trans h35
  replace h36 := (F0.n 36 (by decide)).trans h36
  replace h37 := (F0.n 37 (by decide)).trans h37
  replace h38 := (F0.n 38 (by decide)).trans h38
  have h39 := F0.s
  clear F0
  have bl1 : Blk (w.setCell ⟨b, 4, none⟩ (.slice (cutA A1 c1 (cutN n (X).length) 1) (List.drop (cutN n (X).length) (X)).length (c1 - cutN n (X).length))) b 39 #[.int .i64 f, .int .i64 iv, .int .i64 c, .int .i64 u, .slice (cutA A1 c1 (cutN n (X).length) 1) (List.drop (cutN n (X).length) (X)).length (c1 - cutN n (X).length), .slice A2 Y.length c2, v1, v2] := hC.set 4 _
  refine late_store 21 (w' := w.setCell ⟨b, 4, none⟩ (.slice (cutA A1 c1 (cutN n (X).length) 1) (List.drop (cutN n (X).length) (X)).length (c1 - cutN n (X).length))) (by kernel_rfl) (by kernel_rfl) ?z43 (not_late (by kernel_rfl)) ?z44
  case z43 => (intro o ho; obtain rfl := Option.some.inj ho; exact ⟨rfl, k_storeL rfl (ev_tmp h39) (ev_tmp h28) hC (by simp)⟩)
  case z44 =>
  refine lateF 22 40 (v := .pointer (some ⟨b, 5, none⟩)) hQ (by kernel_rfl) (by rw [hs]; decide) (by kernel_rfl) (by kernel_rfl) (by kernel_rfl) (by decide) (not_late (by kernel_rfl)) ?z45 ?z46
  case z45 => (intro o ho; obtain rfl := Option.some.inj ho; exact Or.inl ⟨rfl, fun w1 h1w => k_field5 rfl (ev_tmp h11)⟩)
  case z46 =>
  intro a F0
  replace hs := F0.z.trans hs
  replace hd := F0.e.trans hd
  replace h1 := (F0.n 1 (by decide)).trans h1
  replace h2 := (F0.n 2 (by decide)).trans h2
  replace h3 := (F0.n 3 (by decide)).trans h3
  replace h4 := (F0.n 4 (by decide)).trans h4
  replace h11 := (F0.n 11 (by decide)).trans h11
  replace h19 := (F0.n 19 (by decide)).trans h19
  replace h20 := (F0.n 20 (by decide)).trans h20
  replace h21 := (F0.n 21 (by decide)).trans h21
  replace h22 := (F0.n 22 (by decide)).trans h22
  replace h23 := (F0.n 23 (by decide)).trans h23
  replace h24 := (F0.n 24 (by decide)).trans h24
  replace h25 := (F0.n 25 (by decide)).trans h25
  replace h26 := (F0.n 26 (by decide)).trans h26
  replace h27 := (F0.n 27 (by decide)).trans h27
  replace h28 := (F0.n 28 (by decide)).trans h28
  replace h29 := (F0.n 29 (by decide)).trans h29
  replace h30 := (F0.n 30 (by decide)).trans h30
  replace h31 := (F0.n 31 (by decide)).trans h31
  replace h32 := (F0.n 32 (by decide)).trans h32
  replace h33 := (F0.n 33 (by decide)).trans h33
  replace h34 := (F0.n 34 (by decide)).trans h34
  replace h35 := (F0.n 35 (by decide)).trans h35
  replace h36 := (F0.n 36 (by decide)).trans h36
  replace h37 := (F0.n 37 (by decide)).trans h37
  replace h38 := (F0.n 38 (by decide)).trans h38
  replace h39 := (F0.n 39 (by decide)).trans h39
  have h40 := F0.s
  clear F0
  refine late_store 23 (w' := (w.setCell ⟨b, 4, none⟩ (.slice (cutA A1 c1 (cutN n (X).length) 1) (List.drop (cutN n (X).length) (X)).length (c1 - cutN n (X).length))).setCell ⟨b, 5, none⟩ (.slice A2 (List.take (cutN m (Y).length) (Y)).length c2)) (by kernel_rfl) (by kernel_rfl) ?z47 (not_late (by kernel_rfl)) ?z48
  case z47 => (intro o ho; obtain rfl := Option.some.inj ho; exact ⟨rfl, k_storeL rfl (ev_tmp h40) (ev_tmp h38) bl1 (by simp)⟩)
  case z48 =>
  refine late_done (by kernel_rfl) ?_
  exact hR a _ hs hd h3 h4 h11 (bl1.set 5 _) (fun B => (exc_set w b 4 _ B).trans (exc_set _ b 5 _ B))

noncomputable def few7 : Array Oper := (Tryd.f4.body.bind (regOf 7)).getD #[]
set_option maxRecDepth 100000 in
set_option maxHeartbeats 1000000 in
theorem regFew7 (a : Act) (w w0 w0' : World) (Q : Exit → Act → World → Prop) (hQ : Blind Q) (b b1 b2 c1 c2 : Nat) (f iv c u n m : Int) (A1 A2 : Option Addr) (X : List (Int × Int)) (Y : List Int) (v1 v2 : Value) (df : List _) (hd : a.defers = df) (hs : a.tmps.size = 78)
    (h3 : a.tmps.getD 3 undef = .int .u8 n) (h4 : a.tmps.getD 4 undef = .int .u8 m) (h11 : a.tmps.getD 11 undef = .pointer (some ⟨b, 0, none⟩))
    (hC : Blk w b 39 #[.int .i64 f, .int .i64 iv, .int .i64 c, .int .i64 u, v1, v2, .slice A1 X.length c1, .slice A2 Y.length c2]) (oA : OwnN w0 b1 (.slice A1 X.length c1) X) (oB : OwnI w0' b2 (.slice A2 Y.length c2) Y) (hn : 0 ≤ n ∧ n ≤ 255) (hm : 0 ≤ m ∧ m ≤ 255) (lX : X.length ≤ 1000) (lY : Y.length ≤ 1000)
    (hR : ∀ (a' : Act) (w' : World), a'.tmps.size = 78 → a'.defers = df → a'.tmps.getD 11 undef = .pointer (some ⟨b, 0, none⟩) → Blk w' b 39 #[.int .i64 f, .int .i64 iv, .int .i64 c, .int .i64 u, v1, v2, .slice (cutA A1 c1 (cutN n (X).length) 2) (List.drop (cutN n (X).length) (X)).length (c1 - cutN n (X).length), .slice A2 (List.take (cutN m (Y).length) (Y)).length c2] → (∀ B, Exc B b w w') → Q .normal a' w') :
    (Code.region 7 few7 true).wp Tryd.prog Q a w := by
  conv => arg 2; arg 2; whnf
  replace hR : ∀ (a' : Act) (w' : World), a'.tmps.size = 78 → a'.defers = df → a'.tmps.getD 11 undef = .pointer (some ⟨b, 0, none⟩) → Blk w' b 39 #[.int .i64 f, .int .i64 iv, .int .i64 c, .int .i64 u, v1, v2, .slice (cutA A1 c1 (cutN n (X).length) 2) (List.drop (cutN n (X).length) (X)).length (c1 - cutN n (X).length), .slice A2 (List.take (cutN m (Y).length) (Y)).length c2] → (∀ B, Exc B b w.drew w') → Q .normal a' w' := fun a' w' e1 e2 e5 e6 e7 => hR a' w' e1 e2 e5 e6 (fun B => (show Exc B b w w.drew from ⟨rfl, rfl, rfl, Nat.le_refl _, fun _ _ _ => rfl⟩).trans (e7 B))
  replace hC : Blk w.drew b 39 #[.int .i64 f, .int .i64 iv, .int .i64 c, .int .i64 u, v1, v2, .slice A1 X.length c1, .slice A2 Y.length c2] := hC
  have cX := cutN_le n X.length
  have cY := cutN_le m Y.length
  refine wp_region_late (z := 21) (C := fun w1 => Blk w1 b 39 #[.int .i64 f, .int .i64 iv, .int .i64 c, .int .i64 u, v1, v2, .slice A1 X.length c1, .slice A2 Y.length c2]) (by kernel_rfl) ?_
  generalize w.drew = w at *
  refine lateF 0 41 (v := .pointer (some ⟨b, 6, none⟩)) hQ (by kernel_rfl) (by rw [hs]; decide) (by kernel_rfl) (by kernel_rfl) (by kernel_rfl) (by decide) (fun _ => hC) ?z49 ?z50
  case z49 => (intro o ho; obtain rfl := Option.some.inj ho; exact Or.inl ⟨rfl, fun w1 h1w => k_field6 rfl (ev_tmp h11)⟩)
  case z50 =>
  intro a F0
  replace hs := F0.z.trans hs
  replace hd := F0.e.trans hd
  replace h3 := (F0.n 3 (by decide)).trans h3
  replace h4 := (F0.n 4 (by decide)).trans h4
  replace h11 := (F0.n 11 (by decide)).trans h11
  have h41 := F0.s
  clear F0
  refine lateL 1 42 (v := .slice A1 X.length c1) hQ (by kernel_rfl) (by rw [hs]; decide) (by kernel_rfl) (by kernel_rfl) (by kernel_rfl) (by kernel_rfl) (by kernel_rfl) hC ?z51 ?z52
  case z51 => (intro o ho; obtain rfl := Option.some.inj ho; exact Or.inl ⟨rfl, fun w1 h1w => k_loadW rfl (ev_tmp h41) (h1w.cell 6)⟩)
  case z52 =>
  intro a F0
  replace hs := F0.z.trans hs
  replace hd := F0.e.trans hd
  replace h3 := (F0.n 3 (by decide)).trans h3
  replace h4 := (F0.n 4 (by decide)).trans h4
  replace h11 := (F0.n 11 (by decide)).trans h11
  replace h41 := (F0.n 41 (by decide)).trans h41
  have h42 := F0.s
  clear F0
  refine lateF 2 43 (v := .int .u8 n) hQ (by kernel_rfl) (by rw [hs]; decide) (by kernel_rfl) (by kernel_rfl) (by kernel_rfl) (by decide) (fun _ => hC) ?z53 ?z54
  case z53 => (intro o ho; obtain rfl := Option.some.inj ho; exact Or.inl ⟨rfl, fun w1 h1w => k_move rfl (ev_tmp h3)⟩)
  case z54 =>
  intro a F0
  replace hs := F0.z.trans hs
  replace hd := F0.e.trans hd
  replace h3 := (F0.n 3 (by decide)).trans h3
  replace h4 := (F0.n 4 (by decide)).trans h4
  replace h11 := (F0.n 11 (by decide)).trans h11
  replace h41 := (F0.n 41 (by decide)).trans h41
  replace h42 := (F0.n 42 (by decide)).trans h42
  have h43 := F0.s
  clear F0
  refine lateF 3 44 (v := .int .i64 n) hQ (by kernel_rfl) (by rw [hs]; decide) (by kernel_rfl) (by kernel_rfl) (by kernel_rfl) (by decide) (fun _ => hC) ?z55 ?z56
  case z55 => (intro o ho; obtain rfl := Option.some.inj ho; exact Or.inl ⟨rfl, fun w1 h1w => o_convBI rfl (ev_tmp h43) (wrap_small (by omega) (by omega))⟩)
  case z56 =>
  intro a F0
  replace hs := F0.z.trans hs
  replace hd := F0.e.trans hd
  replace h3 := (F0.n 3 (by decide)).trans h3
  replace h4 := (F0.n 4 (by decide)).trans h4
  replace h11 := (F0.n 11 (by decide)).trans h11
  replace h41 := (F0.n 41 (by decide)).trans h41
  replace h42 := (F0.n 42 (by decide)).trans h42
  replace h43 := (F0.n 43 (by decide)).trans h43
  have h44 := F0.s
  clear F0
  refine lateF 4 45 (v := .pointer (some ⟨b, 6, none⟩)) hQ (by kernel_rfl) (by rw [hs]; decide) (by kernel_rfl) (by kernel_rfl) (by kernel_rfl) (by decide) (fun _ => hC) ?z57 ?z58
  case z57 => (intro o ho; obtain rfl := Option.some.inj ho; exact Or.inl ⟨rfl, fun w1 h1w => k_field6 rfl (ev_tmp h11)⟩)
  case z58 =>
  intro a F0
  replace hs := F0.z.trans hs
  replace hd := F0.e.trans hd
  replace h3 := (F0.n 3 (by decide)).trans h3
  replace h4 := (F0.n 4 (by decide)).trans h4
  replace h11 := (F0.n 11 (by decide)).trans h11
  replace h41 := (F0.n 41 (by decide)).trans h41
  replace h42 := (F0.n 42 (by decide)).trans h42
  replace h43 := (F0.n 43 (by decide)).trans h43
  replace h44 := (F0.n 44 (by decide)).trans h44
  have h45 := F0.s
  clear F0
  refine lateL 5 46 (v := .slice A1 X.length c1) hQ (by kernel_rfl) (by rw [hs]; decide) (by kernel_rfl) (by kernel_rfl) (by kernel_rfl) (by kernel_rfl) (by kernel_rfl) hC ?z59 ?z60
  case z59 => (intro o ho; obtain rfl := Option.some.inj ho; exact Or.inl ⟨rfl, fun w1 h1w => k_loadW rfl (ev_tmp h45) (h1w.cell 6)⟩)
  case z60 =>
  intro a F0
  replace hs := F0.z.trans hs
  replace hd := F0.e.trans hd
  replace h3 := (F0.n 3 (by decide)).trans h3
  replace h4 := (F0.n 4 (by decide)).trans h4
  replace h11 := (F0.n 11 (by decide)).trans h11
  replace h41 := (F0.n 41 (by decide)).trans h41
  replace h42 := (F0.n 42 (by decide)).trans h42
  replace h43 := (F0.n 43 (by decide)).trans h43
  replace h44 := (F0.n 44 (by decide)).trans h44
  replace h45 := (F0.n 45 (by decide)).trans h45
  have h46 := F0.s
  clear F0
  refine lateF 6 47 (v := .int .i64 X.length) hQ (by kernel_rfl) (by rw [hs]; decide) (by kernel_rfl) (by kernel_rfl) (by kernel_rfl) (by decide) (fun _ => hC) ?z61 ?z62
  case z61 => (intro o ho; obtain rfl := Option.some.inj ho; exact Or.inl ⟨rfl, fun w1 h1w => k_lenW rfl (ev_tmp h46)⟩)
  case z62 =>
  intro a F0
  replace hs := F0.z.trans hs
  replace hd := F0.e.trans hd
  replace h3 := (F0.n 3 (by decide)).trans h3
  replace h4 := (F0.n 4 (by decide)).trans h4
  replace h11 := (F0.n 11 (by decide)).trans h11
  replace h41 := (F0.n 41 (by decide)).trans h41
  replace h42 := (F0.n 42 (by decide)).trans h42
  replace h43 := (F0.n 43 (by decide)).trans h43
  replace h44 := (F0.n 44 (by decide)).trans h44
  replace h45 := (F0.n 45 (by decide)).trans h45
  replace h46 := (F0.n 46 (by decide)).trans h46
  have h47 := F0.s
  clear F0
  refine lateF 7 48 (v := .int .i64 ((X.length : Int) + 1)) hQ (by kernel_rfl) (by rw [hs]; decide) (by kernel_rfl) (by kernel_rfl) (by kernel_rfl) (by decide) (fun _ => hC) ?z63 ?z64
  case z63 => (intro o ho; obtain rfl := Option.some.inj ho; exact Or.inl ⟨rfl, fun w1 h1w => o_addI rfl (ev_tmp h47) rfl (wrap_small (by omega) (by omega))⟩)
  case z64 =>
  intro a F0
  replace hs := F0.z.trans hs
  replace hd := F0.e.trans hd
  replace h3 := (F0.n 3 (by decide)).trans h3
  replace h4 := (F0.n 4 (by decide)).trans h4
  replace h11 := (F0.n 11 (by decide)).trans h11
  replace h41 := (F0.n 41 (by decide)).trans h41
  replace h42 := (F0.n 42 (by decide)).trans h42
  replace h43 := (F0.n 43 (by decide)).trans h43
  replace h44 := (F0.n 44 (by decide)).trans h44
  replace h45 := (F0.n 45 (by decide)).trans h45
  replace h46 := (F0.n 46 (by decide)).trans h46
  replace h47 := (F0.n 47 (by decide)).trans h47
  have h48 := F0.s
  clear F0
  refine lateF 8 49 (v := .int .i64 (cutN n X.length)) hQ (by kernel_rfl) (by rw [hs]; decide) (by kernel_rfl) (by kernel_rfl) (by kernel_rfl) (by decide) (fun _ => hC) ?z65 ?z66
  case z65 => (intro o ho; obtain rfl := Option.some.inj ho; exact Or.inl ⟨rfl, fun w1 h1w => o_remI rfl (ev_tmp h44) (ev_tmp h48) (by omega) (cutN_eq hn.1)⟩)
  case z66 =>
  intro a F0
  replace hs := F0.z.trans hs
  replace hd := F0.e.trans hd
  replace h3 := (F0.n 3 (by decide)).trans h3
  replace h4 := (F0.n 4 (by decide)).trans h4
  replace h11 := (F0.n 11 (by decide)).trans h11
  replace h41 := (F0.n 41 (by decide)).trans h41
  replace h42 := (F0.n 42 (by decide)).trans h42
  replace h43 := (F0.n 43 (by decide)).trans h43
  replace h44 := (F0.n 44 (by decide)).trans h44
  replace h45 := (F0.n 45 (by decide)).trans h45
  replace h46 := (F0.n 46 (by decide)).trans h46
  replace h47 := (F0.n 47 (by decide)).trans h47
  replace h48 := (F0.n 48 (by decide)).trans h48
  have h49 := F0.s
  clear F0
  refine lateF 9 50 (v := .slice (cutA A1 c1 (cutN n (X).length) 2) (List.drop (cutN n (X).length) (X)).length (c1 - cutN n (X).length)) hQ (by kernel_rfl) (by rw [hs]; decide) (by kernel_rfl) (by kernel_rfl) (by kernel_rfl) (by decide) (fun _ => hC) ?z67 ?z68
  case z67 => (intro o ho; obtain rfl := Option.some.inj ho; exact Or.inl ⟨rfl, fun w1 h1w => k_dropW rfl (ev_tmp h42) (ev_tmp h49) oA cX⟩)
  case z68 =>
  intro a F0
  replace hs := F0.z.trans hs
  replace hd := F0.e.trans hd
  replace h3 := (F0.n 3 (by decide)).trans h3
  replace h4 := (F0.n 4 (by decide)).trans h4
  replace h11 := (F0.n 11 (by decide)).trans h11
  replace h41 := (F0.n 41 (by decide)).trans h41
  replace h42 := (F0.n 42 (by decide)).trans h42
  replace h43 := (F0.n 43 (by decide)).trans h43
  replace h44 := (F0.n 44 (by decide)).trans h44
  replace h45 := (F0.n 45 (by decide)).trans h45
  replace h46 := (F0.n 46 (by decide)).trans h46
  replace h47 := (F0.n 47 (by decide)).trans h47
  replace h48 := (F0.n 48 (by decide)).trans h48
  replace h49 := (F0.n 49 (by decide)).trans h49
  have h50 := F0.s
  clear F0
  refine lateF 10 51 (v := .pointer (some ⟨b, 7, none⟩)) hQ (by kernel_rfl) (by rw [hs]; decide) (by kernel_rfl) (by kernel_rfl) (by kernel_rfl) (by decide) (fun _ => hC) ?z69 ?z70
  case z69 => (intro o ho; obtain rfl := Option.some.inj ho; exact Or.inl ⟨rfl, fun w1 h1w => k_field7 rfl (ev_tmp h11)⟩)
  case z70 =>
  intro a F0
  replace hs := F0.z.trans hs
  replace hd := F0.e.trans hd
  replace h3 := (F0.n 3 (by decide)).trans h3
  replace h4 := (F0.n 4 (by decide)).trans h4
  replace h11 := (F0.n 11 (by decide)).trans h11
  replace h41 := (F0.n 41 (by decide)).trans h41
  replace h42 := (F0.n 42 (by decide)).trans h42
  replace h43 := (F0.n 43 (by decide)).trans h43
  replace h44 := (F0.n 44 (by decide)).trans h44
  replace h45 := (F0.n 45 (by decide)).trans h45
  replace h46 := (F0.n 46 (by decide)).trans h46
  replace h47 := (F0.n 47 (by decide)).trans h47
  replace h48 := (F0.n 48 (by decide)).trans h48
  replace h49 := (F0.n 49 (by decide)).trans h49
  replace h50 := (F0.n 50 (by decide)).trans h50
  have h51 := F0.s
  clear F0
  refine lateL 11 52 (v := .slice A2 Y.length c2) hQ (by kernel_rfl) (by rw [hs]; decide) (by kernel_rfl) (by kernel_rfl) (by kernel_rfl) (by kernel_rfl) (by kernel_rfl) hC ?z71 ?z72
  case z71 => (intro o ho; obtain rfl := Option.some.inj ho; exact Or.inl ⟨rfl, fun w1 h1w => k_loadL rfl (ev_tmp h51) (h1w.cell 7)⟩)
  case z72 =>
  intro a F0
  replace hs := F0.z.trans hs
  replace hd := F0.e.trans hd
  replace h3 := (F0.n 3 (by decide)).trans h3
  replace h4 := (F0.n 4 (by decide)).trans h4
  replace h11 := (F0.n 11 (by decide)).trans h11
  replace h41 := (F0.n 41 (by decide)).trans h41
  replace h42 := (F0.n 42 (by decide)).trans h42
  replace h43 := (F0.n 43 (by decide)).trans h43
  replace h44 := (F0.n 44 (by decide)).trans h44
  replace h45 := (F0.n 45 (by decide)).trans h45
  replace h46 := (F0.n 46 (by decide)).trans h46
  replace h47 := (F0.n 47 (by decide)).trans h47
  replace h48 := (F0.n 48 (by decide)).trans h48
  replace h49 := (F0.n 49 (by decide)).trans h49
  replace h50 := (F0.n 50 (by decide)).trans h50
  replace h51 := (F0.n 51 (by decide)).trans h51
  have h52 := F0.s
  clear F0
  refine lateF 12 53 (v := .int .u8 m) hQ (by kernel_rfl) (by rw [hs]; decide) (by kernel_rfl) (by kernel_rfl) (by kernel_rfl) (by decide) (fun _ => hC) ?z73 ?z74
  case z73 => (intro o ho; obtain rfl := Option.some.inj ho; exact Or.inl ⟨rfl, fun w1 h1w => k_move rfl (ev_tmp h4)⟩)
  case z74 =>
  intro a F0
  replace hs := F0.z.trans hs
  replace hd := F0.e.trans hd
  replace h3 := (F0.n 3 (by decide)).trans h3
  replace h4 := (F0.n 4 (by decide)).trans h4
  replace h11 := (F0.n 11 (by decide)).trans h11
  replace h41 := (F0.n 41 (by decide)).trans h41
  replace h42 := (F0.n 42 (by decide)).trans h42
  replace h43 := (F0.n 43 (by decide)).trans h43
  replace h44 := (F0.n 44 (by decide)).trans h44
  replace h45 := (F0.n 45 (by decide)).trans h45
  replace h46 := (F0.n 46 (by decide)).trans h46
  replace h47 := (F0.n 47 (by decide)).trans h47
  replace h48 := (F0.n 48 (by decide)).trans h48
  replace h49 := (F0.n 49 (by decide)).trans h49
  replace h50 := (F0.n 50 (by decide)).trans h50
  replace h51 := (F0.n 51 (by decide)).trans h51
  replace h52 := (F0.n 52 (by decide)).trans h52
  have h53 := F0.s
  clear F0
  refine lateF 13 54 (v := .int .i64 m) hQ (by kernel_rfl) (by rw [hs]; decide) (by kernel_rfl) (by kernel_rfl) (by kernel_rfl) (by decide) (fun _ => hC) ?z75 ?z76
  case z75 => (intro o ho; obtain rfl := Option.some.inj ho; exact Or.inl ⟨rfl, fun w1 h1w => o_convBI rfl (ev_tmp h53) (wrap_small (by omega) (by omega))⟩)
  case z76 =>
  intro a F0
  replace hs := F0.z.trans hs
  replace hd := F0.e.trans hd
  replace h3 := (F0.n 3 (by decide)).trans h3
  replace h4 := (F0.n 4 (by decide)).trans h4
  replace h11 := (F0.n 11 (by decide)).trans h11
  replace h41 := (F0.n 41 (by decide)).trans h41
  replace h42 := (F0.n 42 (by decide)).trans h42
  replace h43 := (F0.n 43 (by decide)).trans h43
  replace h44 := (F0.n 44 (by decide)).trans h44
  replace h45 := (F0.n 45 (by decide)).trans h45
  replace h46 := (F0.n 46 (by decide)).trans h46
  replace h47 := (F0.n 47 (by decide)).trans h47
  replace h48 := (F0.n 48 (by decide)).trans h48
  replace h49 := (F0.n 49 (by decide)).trans h49
  replace h50 := (F0.n 50 (by decide)).trans h50
  replace h51 := (F0.n 51 (by decide)).trans h51
  replace h52 := (F0.n 52 (by decide)).trans h52
  replace h53 := (F0.n 53 (by decide)).trans h53
  have h54 := F0.s
  clear F0
  refine lateF 14 55 (v := .pointer (some ⟨b, 7, none⟩)) hQ (by kernel_rfl) (by rw [hs]; decide) (by kernel_rfl) (by kernel_rfl) (by kernel_rfl) (by decide) (fun _ => hC) ?z77 ?z78
  case z77 => (intro o ho; obtain rfl := Option.some.inj ho; exact Or.inl ⟨rfl, fun w1 h1w => k_field7 rfl (ev_tmp h11)⟩)
  case z78 =>
  intro a F0
  replace hs := F0.z.trans hs
  replace hd := F0.e.trans hd
  replace h3 := (F0.n 3 (by decide)).trans h3
  replace h4 := (F0.n 4 (by decide)).trans h4
  replace h11 := (F0.n 11 (by decide)).trans h11
  replace h41 := (F0.n 41 (by decide)).trans h41
  replace h42 := (F0.n 42 (by decide)).trans h42
  replace h43 := (F0.n 43 (by decide)).trans h43
  replace h44 := (F0.n 44 (by decide)).trans h44
  replace h45 := (F0.n 45 (by decide)).trans h45
  replace h46 := (F0.n 46 (by decide)).trans h46
  replace h47 := (F0.n 47 (by decide)).trans h47
  replace h48 := (F0.n 48 (by decide)).trans h48
  replace h49 := (F0.n 49 (by decide)).trans h49
  replace h50 := (F0.n 50 (by decide)).trans h50
  replace h51 := (F0.n 51 (by decide)).trans h51
  replace h52 := (F0.n 52 (by decide)).trans h52
  replace h53 := (F0.n 53 (by decide)).trans h53
  replace h54 := (F0.n 54 (by decide)).trans h54
  have h55 := F0.s
  clear F0
  refine lateL 15 56 (v := .slice A2 Y.length c2) hQ (by kernel_rfl) (by rw [hs]; decide) (by kernel_rfl) (by kernel_rfl) (by kernel_rfl) (by kernel_rfl) (by kernel_rfl) hC ?z79 ?z80
  case z79 => (intro o ho; obtain rfl := Option.some.inj ho; exact Or.inl ⟨rfl, fun w1 h1w => k_loadL rfl (ev_tmp h55) (h1w.cell 7)⟩)
  case z80 =>
  intro a F0
  replace hs := F0.z.trans hs
  replace hd := F0.e.trans hd
  replace h3 := (F0.n 3 (by decide)).trans h3
  replace h4 := (F0.n 4 (by decide)).trans h4
  replace h11 := (F0.n 11 (by decide)).trans h11
  replace h41 := (F0.n 41 (by decide)).trans h41
  replace h42 := (F0.n 42 (by decide)).trans h42
  replace h43 := (F0.n 43 (by decide)).trans h43
  replace h44 := (F0.n 44 (by decide)).trans h44
  replace h45 := (F0.n 45 (by decide)).trans h45
  replace h46 := (F0.n 46 (by decide)).trans h46
  replace h47 := (F0.n 47 (by decide)).trans h47
  replace h48 := (F0.n 48 (by decide)).trans h48
  replace h49 := (F0.n 49 (by decide)).trans h49
  replace h50 := (F0.n 50 (by decide)).trans h50
  replace h51 := (F0.n 51 (by decide)).trans h51
  replace h52 := (F0.n 52 (by decide)).trans h52
  replace h53 := (F0.n 53 (by decide)).trans h53
  replace h54 := (F0.n 54 (by decide)).trans h54
  replace h55 := (F0.n 55 (by decide)).trans h55
  have h56 := F0.s
  clear F0
  refine lateF 16 57 (v := .int .i64 Y.length) hQ (by kernel_rfl) (by rw [hs]; decide) (by kernel_rfl) (by kernel_rfl) (by kernel_rfl) (by decide) (fun _ => hC) ?z81 ?z82
  case z81 => (intro o ho; obtain rfl := Option.some.inj ho; exact Or.inl ⟨rfl, fun w1 h1w => k_lenL rfl (ev_tmp h56)⟩)
  case z82 =>
  intro a F0
  replace hs := F0.z.trans hs
  replace hd := F0.e.trans hd
  replace h3 := (F0.n 3 (by decide)).trans h3
  replace h4 := (F0.n 4 (by decide)).trans h4
  replace h11 := (F0.n 11 (by decide)).trans h11
  replace h41 := (F0.n 41 (by decide)).trans h41
  replace h42 := (F0.n 42 (by decide)).trans h42
  replace h43 := (F0.n 43 (by decide)).trans h43
  replace h44 := (F0.n 44 (by decide)).trans h44
  replace h45 := (F0.n 45 (by decide)).trans h45
  replace h46 := (F0.n 46 (by decide)).trans h46
  replace h47 := (F0.n 47 (by decide)).trans h47
  replace h48 := (F0.n 48 (by decide)).trans h48
  replace h49 := (F0.n 49 (by decide)).trans h49
  replace h50 := (F0.n 50 (by decide)).trans h50
  replace h51 := (F0.n 51 (by decide)).trans h51
  replace h52 := (F0.n 52 (by decide)).trans h52
  replace h53 := (F0.n 53 (by decide)).trans h53
  replace h54 := (F0.n 54 (by decide)).trans h54
  replace h55 := (F0.n 55 (by decide)).trans h55
  replace h56 := (F0.n 56 (by decide)).trans h56
  have h57 := F0.s
  clear F0
  refine lateF 17 58 (v := .int .i64 ((Y.length : Int) + 1)) hQ (by kernel_rfl) (by rw [hs]; decide) (by kernel_rfl) (by kernel_rfl) (by kernel_rfl) (by decide) (fun _ => hC) ?z83 ?z84
  case z83 => (intro o ho; obtain rfl := Option.some.inj ho; exact Or.inl ⟨rfl, fun w1 h1w => o_addI rfl (ev_tmp h57) rfl (wrap_small (by omega) (by omega))⟩)
  case z84 =>
  intro a F0
  replace hs := F0.z.trans hs
  replace hd := F0.e.trans hd
  replace h3 := (F0.n 3 (by decide)).trans h3
  replace h4 := (F0.n 4 (by decide)).trans h4
  replace h11 := (F0.n 11 (by decide)).trans h11
  replace h41 := (F0.n 41 (by decide)).trans h41
  replace h42 := (F0.n 42 (by decide)).trans h42
  replace h43 := (F0.n 43 (by decide)).trans h43
  replace h44 := (F0.n 44 (by decide)).trans h44
  replace h45 := (F0.n 45 (by decide)).trans h45
  replace h46 := (F0.n 46 (by decide)).trans h46
  replace h47 := (F0.n 47 (by decide)).trans h47
  replace h48 := (F0.n 48 (by decide)).trans h48
  replace h49 := (F0.n 49 (by decide)).trans h49
  replace h50 := (F0.n 50 (by decide)).trans h50
  replace h51 := (F0.n 51 (by decide)).trans h51
  replace h52 := (F0.n 52 (by decide)).trans h52
  replace h53 := (F0.n 53 (by decide)).trans h53
  replace h54 := (F0.n 54 (by decide)).trans h54
  replace h55 := (F0.n 55 (by decide)).trans h55
  replace h56 := (F0.n 56 (by decide)).trans h56
  replace h57 := (F0.n 57 (by decide)).trans h57
  have h58 := F0.s
  clear F0
  refine lateF 18 59 (v := .int .i64 (cutN m Y.length)) hQ (by kernel_rfl) (by rw [hs]; decide) (by kernel_rfl) (by kernel_rfl) (by kernel_rfl) (by decide) (fun _ => hC) ?z85 ?z86
  case z85 => (intro o ho; obtain rfl := Option.some.inj ho; exact Or.inl ⟨rfl, fun w1 h1w => o_remI rfl (ev_tmp h54) (ev_tmp h58) (by omega) (cutN_eq hm.1)⟩)
  case z86 =>
  intro a F0
  replace hs := F0.z.trans hs
  replace hd := F0.e.trans hd
  replace h3 := (F0.n 3 (by decide)).trans h3
  replace h4 := (F0.n 4 (by decide)).trans h4
  replace h11 := (F0.n 11 (by decide)).trans h11
  replace h41 := (F0.n 41 (by decide)).trans h41
  replace h42 := (F0.n 42 (by decide)).trans h42
  replace h43 := (F0.n 43 (by decide)).trans h43
  replace h44 := (F0.n 44 (by decide)).trans h44
  replace h45 := (F0.n 45 (by decide)).trans h45
  replace h46 := (F0.n 46 (by decide)).trans h46
  replace h47 := (F0.n 47 (by decide)).trans h47
  replace h48 := (F0.n 48 (by decide)).trans h48
  replace h49 := (F0.n 49 (by decide)).trans h49
  replace h50 := (F0.n 50 (by decide)).trans h50
  replace h51 := (F0.n 51 (by decide)).trans h51
  replace h52 := (F0.n 52 (by decide)).trans h52
  replace h53 := (F0.n 53 (by decide)).trans h53
  replace h54 := (F0.n 54 (by decide)).trans h54
  replace h55 := (F0.n 55 (by decide)).trans h55
  replace h56 := (F0.n 56 (by decide)).trans h56
  replace h57 := (F0.n 57 (by decide)).trans h57
  replace h58 := (F0.n 58 (by decide)).trans h58
  have h59 := F0.s
  clear F0
  refine lateF 19 60 (v := .slice A2 (List.take (cutN m (Y).length) (Y)).length c2) hQ (by kernel_rfl) (by rw [hs]; decide) (by kernel_rfl) (by kernel_rfl) (by kernel_rfl) (by decide) (fun _ => hC) ?z87 ?z88
  case z87 => (intro o ho; obtain rfl := Option.some.inj ho; exact Or.inl ⟨rfl, fun w1 h1w => k_takeI rfl (ev_tmp h52) (ev_tmp h59) oB cY⟩)
  case z88 =>
  intro a F0
  replace hs := F0.z.trans hs
  replace hd := F0.e.trans hd
  replace h3 := (F0.n 3 (by decide)).trans h3
  replace h4 := (F0.n 4 (by decide)).trans h4
  replace h11 := (F0.n 11 (by decide)).trans h11
  replace h41 := (F0.n 41 (by decide)).trans h41
  replace h42 := (F0.n 42 (by decide)).trans h42
  replace h43 := (F0.n 43 (by decide)).trans h43
  replace h44 := (F0.n 44 (by decide)).trans h44
  replace h45 := (F0.n 45 (by decide)).trans h45
  replace h46 := (F0.n 46 (by decide)).trans h46
  replace h47 := (F0.n 47 (by decide)).trans h47
  replace h48 := (F0.n 48 (by decide)).trans h48
  replace h49 := (F0.n 49 (by decide)).trans h49
  replace h50 := (F0.n 50 (by decide)).trans h50
  replace h51 := (F0.n 51 (by decide)).trans h51
  replace h52 := (F0.n 52 (by decide)).trans h52
  replace h53 := (F0.n 53 (by decide)).trans h53
  replace h54 := (F0.n 54 (by decide)).trans h54
  replace h55 := (F0.n 55 (by decide)).trans h55
  replace h56 := (F0.n 56 (by decide)).trans h56
  replace h57 := (F0.n 57 (by decide)).trans h57
  replace h58 := (F0.n 58 (by decide)).trans h58
  replace h59 := (F0.n 59 (by decide)).trans h59
  have h60 := F0.s
  clear F0
  refine lateF 20 61 (v := .pointer (some ⟨b, 6, none⟩)) hQ (by kernel_rfl) (by rw [hs]; decide) (by kernel_rfl) (by kernel_rfl) (by kernel_rfl) (by decide) (fun _ => hC) ?z89 ?z90
  case z89 => (intro o ho; obtain rfl := Option.some.inj ho; exact Or.inl ⟨rfl, fun w1 h1w => k_field6 rfl (ev_tmp h11)⟩)
  case z90 =>
  intro a F0
  replace hs := F0.z.trans hs
  replace hd := F0.e.trans hd
  replace h3 := (F0.n 3 (by decide)).trans h3
  replace h4 := (F0.n 4 (by decide)).trans h4
  replace h11 := (F0.n 11 (by decide)).trans h11
  replace h41 := (F0.n 41 (by decide)).trans h41
  replace h42 := (F0.n 42 (by decide)).trans h42
  replace h43 := (F0.n 43 (by decide)).trans h43
  replace h44 := (F0.n 44 (by decide)).trans h44
  replace h45 := (F0.n 45 (by decide)).trans h45
  replace h46 := (F0.n 46 (by decide)).trans h46
  replace h47 := (F0.n 47 (by decide)).trans h47
  replace h48 := (F0.n 48 (by decide)).trans h48
  replace h49 := (F0.n 49 (by decide)).trans h49
  replace h50 := (F0.n 50 (by decide)).trans h50
  replace h51 := (F0.n 51 (by decide)).trans h51
  replace h52 := (F0.n 52 (by decide)).trans h52
  replace h53 := (F0.n 53 (by decide)).trans h53
  replace h54 := (F0.n 54 (by decide)).trans h54
  replace h55 := (F0.n 55 (by decide)).trans h55
  replace h56 := (F0.n 56 (by decide)).trans h56
  replace h57 := (F0.n 57 (by decide)).trans h57
  replace h58 := (F0.n 58 (by decide)).trans h58
  replace h59 := (F0.n 59 (by decide)).trans h59
  replace h60 := (F0.n 60 (by decide)).trans h60
  have h61 := F0.s
  clear F0
  have bl1 : Blk (w.setCell ⟨b, 6, none⟩ (.slice (cutA A1 c1 (cutN n (X).length) 2) (List.drop (cutN n (X).length) (X)).length (c1 - cutN n (X).length))) b 39 #[.int .i64 f, .int .i64 iv, .int .i64 c, .int .i64 u, v1, v2, .slice (cutA A1 c1 (cutN n (X).length) 2) (List.drop (cutN n (X).length) (X)).length (c1 - cutN n (X).length), .slice A2 Y.length c2] := hC.set 6 _
  refine late_store 21 (w' := w.setCell ⟨b, 6, none⟩ (.slice (cutA A1 c1 (cutN n (X).length) 2) (List.drop (cutN n (X).length) (X)).length (c1 - cutN n (X).length))) (by kernel_rfl) (by kernel_rfl) ?z91 (not_late (by kernel_rfl)) ?z92
  case z91 => (intro o ho; obtain rfl := Option.some.inj ho; exact ⟨rfl, k_storeW rfl (ev_tmp h61) (ev_tmp h50) hC (by simp)⟩)
  case z92 =>
  refine lateF 22 62 (v := .pointer (some ⟨b, 7, none⟩)) hQ (by kernel_rfl) (by rw [hs]; decide) (by kernel_rfl) (by kernel_rfl) (by kernel_rfl) (by decide) (not_late (by kernel_rfl)) ?z93 ?z94
  case z93 => (intro o ho; obtain rfl := Option.some.inj ho; exact Or.inl ⟨rfl, fun w1 h1w => k_field7 rfl (ev_tmp h11)⟩)
  case z94 =>
  intro a F0
  replace hs := F0.z.trans hs
  replace hd := F0.e.trans hd
  replace h3 := (F0.n 3 (by decide)).trans h3
  replace h4 := (F0.n 4 (by decide)).trans h4
  replace h11 := (F0.n 11 (by decide)).trans h11
  replace h41 := (F0.n 41 (by decide)).trans h41
  replace h42 := (F0.n 42 (by decide)).trans h42
  replace h43 := (F0.n 43 (by decide)).trans h43
  replace h44 := (F0.n 44 (by decide)).trans h44
  replace h45 := (F0.n 45 (by decide)).trans h45
  replace h46 := (F0.n 46 (by decide)).trans h46
  replace h47 := (F0.n 47 (by decide)).trans h47
  replace h48 := (F0.n 48 (by decide)).trans h48
  replace h49 := (F0.n 49 (by decide)).trans h49
  replace h50 := (F0.n 50 (by decide)).trans h50
  replace h51 := (F0.n 51 (by decide)).trans h51
  replace h52 := (F0.n 52 (by decide)).trans h52
  replace h53 := (F0.n 53 (by decide)).trans h53
  replace h54 := (F0.n 54 (by decide)).trans h54
  replace h55 := (F0.n 55 (by decide)).trans h55
  replace h56 := (F0.n 56 (by decide)).trans h56
  replace h57 := (F0.n 57 (by decide)).trans h57
  replace h58 := (F0.n 58 (by decide)).trans h58
  replace h59 := (F0.n 59 (by decide)).trans h59
  replace h60 := (F0.n 60 (by decide)).trans h60
  replace h61 := (F0.n 61 (by decide)).trans h61
  have h62 := F0.s
  clear F0
  refine late_store 23 (w' := (w.setCell ⟨b, 6, none⟩ (.slice (cutA A1 c1 (cutN n (X).length) 2) (List.drop (cutN n (X).length) (X)).length (c1 - cutN n (X).length))).setCell ⟨b, 7, none⟩ (.slice A2 (List.take (cutN m (Y).length) (Y)).length c2)) (by kernel_rfl) (by kernel_rfl) ?z95 (not_late (by kernel_rfl)) ?z96
  case z95 => (intro o ho; obtain rfl := Option.some.inj ho; exact ⟨rfl, k_storeL rfl (ev_tmp h62) (ev_tmp h60) bl1 (by simp)⟩)
  case z96 =>
  refine late_done (by kernel_rfl) ?_
  exact hR a _ hs hd h11 (bl1.set 7 _) (fun B => (exc_set w b 6 _ B).trans (exc_set _ b 7 _ B))

set_option maxRecDepth 100000 in
set_option maxHeartbeats 1000000 in
theorem ruleFewer_heavy (F I E C U : Int) (AM AD AW AP : Option Addr) (cM cD cW cP : Nat) (lm ld : List Int) (lw : List (Int × Int)) (lp : List Int) (na nb nc nd : Int) (w : World) (hM : Months w) (hX : XIn0 w F I E C U AM AD AW AP lm ld lw lp) (hlt : light lm ld lw lp = false) :
    Calls Tryd.prog 4 #[.agg #[.int .u8 F, .int .u8 I, .int .u8 E, .int .u16 C, .int .u32 U, .slice AM lm.length cM, .slice AD ld.length cD, .slice AW lw.length cW, .slice AP lp.length cP], .int .u8 na, .int .u8 nb, .int .u8 nc, .int .u8 nd] w fun e w' => e = .returned (.bool true) ∧ Below w.heap.size w w' := by
  refine calls_of_wp Tryd.func4 (show Tryd.f4.body = some ruleFewerBody from rfl) ?_
  generalize hA : (Act.mk (#[.agg #[.int .u8 F, .int .u8 I, .int .u8 E, .int .u16 C, .int .u32 U, .slice AM lm.length cM, .slice AD ld.length cD, .slice AW lw.length cW, .slice AP lp.length cP], .int .u8 na, .int .u8 nb, .int .u8 nc, .int .u8 nd] ++ Array.replicate (Tryd.f4.ntmps - (#[.agg #[.int .u8 F, .int .u8 I, .int .u8 E, .int .u16 C, .int .u32 U, .slice AM lm.length cM, .slice AD ld.length cD, .slice AW lw.length cW, .slice AP lp.length cP], .int .u8 na, .int .u8 nb, .int .u8 nc, .int .u8 nd] : Array Value).size) undef) []) = a
  have hs : a.tmps.size = 78 := by rw [← hA]; simp [Tryd.ntmps4]
  have hd : a.defers = [] := by rw [← hA]
  have h0 : a.tmps.getD 0 undef = .agg #[.int .u8 F, .int .u8 I, .int .u8 E, .int .u16 C, .int .u32 U, .slice AM lm.length cM, .slice AD ld.length cD, .slice AW lw.length cW, .slice AP lp.length cP] := by rw [← hA]; simp
  have h1 : a.tmps.getD 1 undef = .int .u8 na := by rw [← hA]; simp
  have h2 : a.tmps.getD 2 undef = .int .u8 nb := by rw [← hA]; simp
  have h3 : a.tmps.getD 3 undef = .int .u8 nc := by rw [← hA]; simp
  have h4 : a.tmps.getD 4 undef = .int .u8 nd := by rw [← hA]; simp
  clear hA
  refine Code.wp_mono NoPanic.imp ?_
  have hQ : Blind (NoPanic (bodyPost Tryd.prog Tryd.f4 fun e w' => e = .returned (.bool true) ∧ Below w.heap.size w w')) := fun _ _ _ _ q => q.elim
  have hfin : ∀ (a' : Act) (w' : World), a'.defers = [] → a'.tmps.getD 10 undef = .bool true → Below w.heap.size w w' → NoPanic (bodyPost Tryd.prog Tryd.f4 fun e w' => e = .returned (.bool true) ∧ Below w.heap.size w w') .ret a' w' := by
    intro a' w' k1 k2 k3
    exact ⟨k1, _, results_tmp rfl _ _ _, by rw [k2], k3⟩
  generalize NoPanic (bodyPost Tryd.prog Tryd.f4 fun e w' => e = .returned (.bool true) ∧ Below w.heap.size w w') = Q at hQ hfin
  unfold ruleFewerBody
  conv => arg 2; whnf
  refine wp_seq ?_
  refine wp_region (show wpOps _ _ _ [0, 1] _ _ from ?_)
  refine opL 0 5 (v := .pointer (some ⟨w.heap.size, 0, none⟩)) (w' := (w.alloc (.cells #[.int .u8 F, .int .u8 I, .int .u8 E, .int .u16 C, .int .u32 U, .slice AM lm.length cM, .slice AD ld.length cD, .slice AW lw.length cW, .slice AP lp.length cP] 31))) (by kernel_rfl) (by rw [hs]; decide) ?z97 ?z98
  case z97 => (intro o ho; obtain rfl := Option.some.inj ho; exact ⟨rfl, k_box9 rfl (ev_tmp h0)⟩)
  case z98 =>
  intro a F0
  replace hs := F0.z.trans hs
  replace hd := F0.e.trans hd
  clear h0
  replace h1 := (F0.n 1 (by decide)).trans h1
  replace h2 := (F0.n 2 (by decide)).trans h2
  replace h3 := (F0.n 3 (by decide)).trans h3
  replace h4 := (F0.n 4 (by decide)).trans h4
  have h5 := F0.s
  clear F0
  obtain ⟨w1, hw1⟩ : ∃ wn, wn = w.alloc (.cells #[.int .u8 F, .int .u8 I, .int .u8 E, .int .u16 C, .int .u32 U, .slice AM lm.length cM, .slice AD ld.length cD, .slice AW lw.length cW, .slice AP lp.length cP] 31) := ⟨_, rfl⟩
  rw [← hw1]
  have q1 : Blk w1 w.heap.size 31 #[.int .u8 F, .int .u8 I, .int .u8 E, .int .u16 C, .int .u32 U, .slice AM lm.length cM, .slice AD ld.length cD, .slice AW lw.length cW, .slice AP lp.length cP] := by rw [hw1]; exact Blk.alloc _ _ _
  have l1 : Below w.heap.size w w1 := by rw [hw1]; exact (Below.refl _ _).alloc (Nat.le_refl _) _
  clear hw1
  refine opL 1 10 (v := .bool false) (w' := w1) (by kernel_rfl) (by rw [hs]; decide) ?z99 ?z100
  case z99 => (intro o ho; obtain rfl := Option.some.inj ho; exact ⟨rfl, k_assign rfl rfl⟩)
  case z100 =>
  intro a F0
  replace hs := F0.z.trans hs
  replace hd := F0.e.trans hd
  replace h1 := (F0.n 1 (by decide)).trans h1
  replace h2 := (F0.n 2 (by decide)).trans h2
  replace h3 := (F0.n 3 (by decide)).trans h3
  replace h4 := (F0.n 4 (by decide)).trans h4
  replace h5 := (F0.n 5 (by decide)).trans h5
  have h10 := F0.s
  clear F0
  refine wp_seq ?_
  refine wp_seq ?_
  refine wp_region (show wpOps _ _ _ [0, 1] _ _ from ?_)
  refine opL_call 0 12 (f := 5) (args := #[]) (R := fun v w' => v = .bool true ∧ Below w1.heap.size w1 w') (by kernel_rfl) (by rw [hs]; decide) ?z101 (awake2' w1 (hM.grown l1)) ?z102
  case z101 => (intro o ho; obtain rfl := Option.some.inj ho; exact ⟨rfl, k_callAwake rfl rfl⟩)
  case z102 =>
  rintro _ w2 a ⟨rfl, l2⟩ F0
  replace hs := F0.z.trans hs
  replace hd := F0.e.trans hd
  replace h1 := (F0.n 1 (by decide)).trans h1
  replace h2 := (F0.n 2 (by decide)).trans h2
  replace h3 := (F0.n 3 (by decide)).trans h3
  replace h4 := (F0.n 4 (by decide)).trans h4
  replace h5 := (F0.n 5 (by decide)).trans h5
  replace h10 := (F0.n 10 (by decide)).trans h10
  have h12 := F0.s
  clear F0
  replace q1 := q1.below l2 q1.lt
  have m2 := l1.trans (l2.mono l1.size)
  clear l1 l2
  refine opL 1 13 (v := .bool false) (w' := w2) (by kernel_rfl) (by rw [hs]; decide) ?z103 ?z104
  case z103 => (intro o ho; obtain rfl := Option.some.inj ho; exact ⟨rfl, o_not rfl (ev_tmp h12) rfl⟩)
  case z104 =>
  intro a F0
  replace hs := F0.z.trans hs
  replace hd := F0.e.trans hd
  replace h1 := (F0.n 1 (by decide)).trans h1
  replace h2 := (F0.n 2 (by decide)).trans h2
  replace h3 := (F0.n 3 (by decide)).trans h3
  replace h4 := (F0.n 4 (by decide)).trans h4
  replace h5 := (F0.n 5 (by decide)).trans h5
  replace h10 := (F0.n 10 (by decide)).trans h10
  clear h12
  have h13 := F0.s
  clear F0
  refine wp_cond_false (ev_tmp h13) ?_
  refine wp_skip ?_
  refine wp_seq ?_
  refine wp_seq ?_
  refine wp_region (show wpOps _ _ _ [0, 1, 2] _ _ from ?_)
  refine opL 0 14 (v := .agg #[.int .u8 F, .int .u8 I, .int .u8 E, .int .u16 C, .int .u32 U, .slice AM lm.length cM, .slice AD ld.length cD, .slice AW lw.length cW, .slice AP lp.length cP]) (w' := w2) (by kernel_rfl) (by rw [hs]; decide) ?z105 ?z106
  case z105 => (intro o ho; obtain rfl := Option.some.inj ho; exact ⟨rfl, k_load9 rfl (ev_tmp h5) q1⟩)
  case z106 =>
  intro a F0
  replace hs := F0.z.trans hs
  replace hd := F0.e.trans hd
  replace h1 := (F0.n 1 (by decide)).trans h1
  replace h2 := (F0.n 2 (by decide)).trans h2
  replace h3 := (F0.n 3 (by decide)).trans h3
  replace h4 := (F0.n 4 (by decide)).trans h4
  replace h5 := (F0.n 5 (by decide)).trans h5
  replace h10 := (F0.n 10 (by decide)).trans h10
  replace h13 := (F0.n 13 (by decide)).trans h13
  have h14 := F0.s
  clear F0
  refine opL_call 1 15 (f := 6) (args := #[.agg #[.int .u8 F, .int .u8 I, .int .u8 E, .int .u16 C, .int .u32 U, .slice AM lm.length cM, .slice AD ld.length cD, .slice AW lw.length cW, .slice AP lp.length cP]]) (R := fun v w' => v = .bool (light lm ld lw lp) ∧ Below w2.heap.size w2 w') (by kernel_rfl) (by rw [hs]; decide) ?z107 (light_any _ _ _ _ _ AM AD AW AP cM cD cW cP lm ld lw lp w2 hX.lm1 hX.ld1 hX.lw1 hX.lp1) ?z108
  case z107 => (intro o ho; obtain rfl := Option.some.inj ho; exact ⟨rfl, c_Light rfl rfl (ev_tmp h14)⟩)
  case z108 =>
  rintro _ w3 a ⟨rfl, l3⟩ F0
  rw [hlt] at F0
  replace hs := F0.z.trans hs
  replace hd := F0.e.trans hd
  replace h1 := (F0.n 1 (by decide)).trans h1
  replace h2 := (F0.n 2 (by decide)).trans h2
  replace h3 := (F0.n 3 (by decide)).trans h3
  replace h4 := (F0.n 4 (by decide)).trans h4
  replace h5 := (F0.n 5 (by decide)).trans h5
  replace h10 := (F0.n 10 (by decide)).trans h10
  replace h13 := (F0.n 13 (by decide)).trans h13
  clear h14
  have h15 := F0.s
  clear F0
  replace q1 := q1.below l3 q1.lt
  have m3 := m2.trans (l3.mono m2.size)
  clear m2 l3
  refine opL 2 16 (v := .bool true) (w' := w3) (by kernel_rfl) (by rw [hs]; decide) ?z109 ?z110
  case z109 => (intro o ho; obtain rfl := Option.some.inj ho; exact ⟨rfl, o_not rfl (ev_tmp h15) rfl⟩)
  case z110 =>
  intro a F0
  replace hs := F0.z.trans hs
  replace hd := F0.e.trans hd
  replace h1 := (F0.n 1 (by decide)).trans h1
  replace h2 := (F0.n 2 (by decide)).trans h2
  replace h3 := (F0.n 3 (by decide)).trans h3
  replace h4 := (F0.n 4 (by decide)).trans h4
  replace h5 := (F0.n 5 (by decide)).trans h5
  replace h10 := (F0.n 10 (by decide)).trans h10
  replace h13 := (F0.n 13 (by decide)).trans h13
  clear h15
  have h16 := F0.s
  clear F0
  refine wp_cond_true (ev_tmp h16) ?_
  refine wp_seq ?_
  refine wp_region (show wpOps _ _ _ [0] _ _ from ?_)
  refine opL 0 10 (v := .bool true) (w' := w3) (by kernel_rfl) (by rw [hs]; decide) ?z111 ?z112
  case z111 => (intro o ho; obtain rfl := Option.some.inj ho; exact ⟨rfl, k_assign rfl rfl⟩)
  case z112 =>
  intro a F0
  replace hs := F0.z.trans hs
  replace hd := F0.e.trans hd
  replace h1 := (F0.n 1 (by decide)).trans h1
  replace h2 := (F0.n 2 (by decide)).trans h2
  replace h3 := (F0.n 3 (by decide)).trans h3
  replace h4 := (F0.n 4 (by decide)).trans h4
  replace h5 := (F0.n 5 (by decide)).trans h5
  clear h10
  replace h13 := (F0.n 13 (by decide)).trans h13
  replace h16 := (F0.n 16 (by decide)).trans h16
  have h10 := F0.s
  clear F0
  refine wp_ret ?_
  exact hfin a w3 hd h10 m3


set_option maxRecDepth 100000 in
set_option maxHeartbeats 1000000 in
theorem ruleFewer_none (F I E C U : Int) (AM AD AW AP : Option Addr) (cM cD cW cP : Nat) (lm ld : List Int) (lw : List (Int × Int)) (lp : List Int) (na nb nc nd : Int) (w : World) (hM : Months w) (hX : XIn0 w F I E C U AM AD AW AP lm ld lw lp) (hna : 0 ≤ na ∧ na ≤ 255) (hnb : 0 ≤ nb ∧ nb ≤ 255) (hnc : 0 ≤ nc ∧ nc ≤ 255) (hnd : 0 ≤ nd ∧ nd ≤ 255) (hlt : light lm ld lw lp = true) (gpos : decide ((0 : Int) < (((List.take (cutN nd (Mk.P F lm ld lw lp).length) (Mk.P F lm ld lw lp)).length : Nat) : Int)) = false) :
    Calls Tryd.prog 4 #[.agg #[.int .u8 F, .int .u8 I, .int .u8 E, .int .u16 C, .int .u32 U, .slice AM lm.length cM, .slice AD ld.length cD, .slice AW lw.length cW, .slice AP lp.length cP], .int .u8 na, .int .u8 nb, .int .u8 nc, .int .u8 nd] w fun e w' => e = .returned (.bool true) ∧ Below w.heap.size w w' := by
  have ll : lm.length ≤ 20 ∧ ld.length ≤ 20 ∧ lw.length ≤ 20 ∧ lp.length ≤ 20 := by simpa [light] using hlt
  obtain ⟨k1, k2, k3, k4, k5, k6, k7, k8, k9, k10, k11, k12, k13, k14⟩ := make_ok (hX.full hlt) (by omega) (by omega) (by omega) (by omega)
  have ck : Rul.check (F.tmod 4) (Mk.iv I) (Mk.cnt E C) (Mk.unt E U) (List.drop (cutN na (Mk.mon lm).length) (Mk.mon lm)) (List.take (cutN nb (Mk.D F ld).length) (Mk.D F ld)) (List.drop (cutN nc ((Mk.W F lw).map (·.1)).length) ((Mk.W F lw).map (·.1))) (List.take (cutN nd (Mk.P F lm ld lw lp).length) (Mk.P F lm ld lw lp)) = 0 := by
    rw [fewer_check _ _ _ _ k1 k2 k3 k4 k5 k6 k7 k8 k9 k10 k12 k13]
    have gp : decide (0 < (List.take (cutN nd (Mk.P F lm ld lw lp).length) (Mk.P F lm ld lw lp)).length) = false := by simpa using gpos
    rw [gp]
    rfl
  have lM : (Mk.mon lm).length ≤ 1000 := by omega
  have lD : (Mk.D F ld).length ≤ 1000 := by omega
  have lW : ((Mk.W F lw).map (·.1)).length ≤ 1000 := by omega
  have lP : (Mk.P F lm ld lw lp).length ≤ 1000 := by omega
  clear k1 k2 k3 k4 k5 k6 k7 k8 k9 k10 k11 k12 k13 k14
  refine calls_of_wp Tryd.func4 (show Tryd.f4.body = some ruleFewerBody from rfl) ?_
  generalize hA : (Act.mk (#[.agg #[.int .u8 F, .int .u8 I, .int .u8 E, .int .u16 C, .int .u32 U, .slice AM lm.length cM, .slice AD ld.length cD, .slice AW lw.length cW, .slice AP lp.length cP], .int .u8 na, .int .u8 nb, .int .u8 nc, .int .u8 nd] ++ Array.replicate (Tryd.f4.ntmps - (#[.agg #[.int .u8 F, .int .u8 I, .int .u8 E, .int .u16 C, .int .u32 U, .slice AM lm.length cM, .slice AD ld.length cD, .slice AW lw.length cW, .slice AP lp.length cP], .int .u8 na, .int .u8 nb, .int .u8 nc, .int .u8 nd] : Array Value).size) undef) []) = a
  have hs : a.tmps.size = 78 := by rw [← hA]; simp [Tryd.ntmps4]
  have hd : a.defers = [] := by rw [← hA]
  have h0 : a.tmps.getD 0 undef = .agg #[.int .u8 F, .int .u8 I, .int .u8 E, .int .u16 C, .int .u32 U, .slice AM lm.length cM, .slice AD ld.length cD, .slice AW lw.length cW, .slice AP lp.length cP] := by rw [← hA]; simp
  have h1 : a.tmps.getD 1 undef = .int .u8 na := by rw [← hA]; simp
  have h2 : a.tmps.getD 2 undef = .int .u8 nb := by rw [← hA]; simp
  have h3 : a.tmps.getD 3 undef = .int .u8 nc := by rw [← hA]; simp
  have h4 : a.tmps.getD 4 undef = .int .u8 nd := by rw [← hA]; simp
  clear hA
  refine Code.wp_mono NoPanic.imp ?_
  have hQ : Blind (NoPanic (bodyPost Tryd.prog Tryd.f4 fun e w' => e = .returned (.bool true) ∧ Below w.heap.size w w')) := fun _ _ _ _ q => q.elim
  have hfin : ∀ (a' : Act) (w' : World), a'.defers = [] → a'.tmps.getD 10 undef = .bool true → Below w.heap.size w w' → NoPanic (bodyPost Tryd.prog Tryd.f4 fun e w' => e = .returned (.bool true) ∧ Below w.heap.size w w') .ret a' w' := by
    intro a' w' k1 k2 k3
    exact ⟨k1, _, results_tmp rfl _ _ _, by rw [k2], k3⟩
  generalize NoPanic (bodyPost Tryd.prog Tryd.f4 fun e w' => e = .returned (.bool true) ∧ Below w.heap.size w w') = Q at hQ hfin
  unfold ruleFewerBody
  conv => arg 2; whnf
  refine wp_seq ?_
  refine wp_region (show wpOps _ _ _ [0, 1] _ _ from ?_)
  refine opL 0 5 (v := .pointer (some ⟨w.heap.size, 0, none⟩)) (w' := (w.alloc (.cells #[.int .u8 F, .int .u8 I, .int .u8 E, .int .u16 C, .int .u32 U, .slice AM lm.length cM, .slice AD ld.length cD, .slice AW lw.length cW, .slice AP lp.length cP] 31))) (by kernel_rfl) (by rw [hs]; decide) ?z113 ?z114
  case z113 => (intro o ho; obtain rfl := Option.some.inj ho; exact ⟨rfl, k_box9 rfl (ev_tmp h0)⟩)
  case z114 =>
  intro a F0
  replace hs := F0.z.trans hs
  replace hd := F0.e.trans hd
  clear h0
  replace h1 := (F0.n 1 (by decide)).trans h1
  replace h2 := (F0.n 2 (by decide)).trans h2
  replace h3 := (F0.n 3 (by decide)).trans h3
  replace h4 := (F0.n 4 (by decide)).trans h4
  have h5 := F0.s
  clear F0
  obtain ⟨w1, hw1⟩ : ∃ wn, wn = w.alloc (.cells #[.int .u8 F, .int .u8 I, .int .u8 E, .int .u16 C, .int .u32 U, .slice AM lm.length cM, .slice AD ld.length cD, .slice AW lw.length cW, .slice AP lp.length cP] 31) := ⟨_, rfl⟩
  rw [← hw1]
  have q1 : Blk w1 w.heap.size 31 #[.int .u8 F, .int .u8 I, .int .u8 E, .int .u16 C, .int .u32 U, .slice AM lm.length cM, .slice AD ld.length cD, .slice AW lw.length cW, .slice AP lp.length cP] := by rw [hw1]; exact Blk.alloc _ _ _
  have l1 : Below w.heap.size w w1 := by rw [hw1]; exact (Below.refl _ _).alloc (Nat.le_refl _) _
  clear hw1
  refine opL 1 10 (v := .bool false) (w' := w1) (by kernel_rfl) (by rw [hs]; decide) ?z115 ?z116
  case z115 => (intro o ho; obtain rfl := Option.some.inj ho; exact ⟨rfl, k_assign rfl rfl⟩)
  case z116 =>
  intro a F0
  replace hs := F0.z.trans hs
  replace hd := F0.e.trans hd
  replace h1 := (F0.n 1 (by decide)).trans h1
  replace h2 := (F0.n 2 (by decide)).trans h2
  replace h3 := (F0.n 3 (by decide)).trans h3
  replace h4 := (F0.n 4 (by decide)).trans h4
  replace h5 := (F0.n 5 (by decide)).trans h5
  have h10 := F0.s
  clear F0
  refine wp_seq ?_
  refine wp_seq ?_
  refine wp_region (show wpOps _ _ _ [0, 1] _ _ from ?_)
  refine opL_call 0 12 (f := 5) (args := #[]) (R := fun v w' => v = .bool true ∧ Below w1.heap.size w1 w') (by kernel_rfl) (by rw [hs]; decide) ?z117 (awake2' w1 (hM.grown l1)) ?z118
  case z117 => (intro o ho; obtain rfl := Option.some.inj ho; exact ⟨rfl, k_callAwake rfl rfl⟩)
  case z118 =>
  rintro _ w2 a ⟨rfl, l2⟩ F0
  replace hs := F0.z.trans hs
  replace hd := F0.e.trans hd
  replace h1 := (F0.n 1 (by decide)).trans h1
  replace h2 := (F0.n 2 (by decide)).trans h2
  replace h3 := (F0.n 3 (by decide)).trans h3
  replace h4 := (F0.n 4 (by decide)).trans h4
  replace h5 := (F0.n 5 (by decide)).trans h5
  replace h10 := (F0.n 10 (by decide)).trans h10
  have h12 := F0.s
  clear F0
  replace q1 := q1.below l2 q1.lt
  have m2 := l1.trans (l2.mono l1.size)
  clear l1 l2
  refine opL 1 13 (v := .bool false) (w' := w2) (by kernel_rfl) (by rw [hs]; decide) ?z119 ?z120
  case z119 => (intro o ho; obtain rfl := Option.some.inj ho; exact ⟨rfl, o_not rfl (ev_tmp h12) rfl⟩)
  case z120 =>
  intro a F0
  replace hs := F0.z.trans hs
  replace hd := F0.e.trans hd
  replace h1 := (F0.n 1 (by decide)).trans h1
  replace h2 := (F0.n 2 (by decide)).trans h2
  replace h3 := (F0.n 3 (by decide)).trans h3
  replace h4 := (F0.n 4 (by decide)).trans h4
  replace h5 := (F0.n 5 (by decide)).trans h5
  replace h10 := (F0.n 10 (by decide)).trans h10
  clear h12
  have h13 := F0.s
  clear F0
  refine wp_cond_false (ev_tmp h13) ?_
  refine wp_skip ?_
  refine wp_seq ?_
  refine wp_seq ?_
  refine wp_region (show wpOps _ _ _ [0, 1, 2] _ _ from ?_)
  refine opL 0 14 (v := .agg #[.int .u8 F, .int .u8 I, .int .u8 E, .int .u16 C, .int .u32 U, .slice AM lm.length cM, .slice AD ld.length cD, .slice AW lw.length cW, .slice AP lp.length cP]) (w' := w2) (by kernel_rfl) (by rw [hs]; decide) ?z121 ?z122
  case z121 => (intro o ho; obtain rfl := Option.some.inj ho; exact ⟨rfl, k_load9 rfl (ev_tmp h5) q1⟩)
  case z122 =>
  intro a F0
  replace hs := F0.z.trans hs
  replace hd := F0.e.trans hd
  replace h1 := (F0.n 1 (by decide)).trans h1
  replace h2 := (F0.n 2 (by decide)).trans h2
  replace h3 := (F0.n 3 (by decide)).trans h3
  replace h4 := (F0.n 4 (by decide)).trans h4
  replace h5 := (F0.n 5 (by decide)).trans h5
  replace h10 := (F0.n 10 (by decide)).trans h10
  replace h13 := (F0.n 13 (by decide)).trans h13
  have h14 := F0.s
  clear F0
  refine opL_call 1 15 (f := 6) (args := #[.agg #[.int .u8 F, .int .u8 I, .int .u8 E, .int .u16 C, .int .u32 U, .slice AM lm.length cM, .slice AD ld.length cD, .slice AW lw.length cW, .slice AP lp.length cP]]) (R := fun v w' => v = .bool (light lm ld lw lp) ∧ Below w2.heap.size w2 w') (by kernel_rfl) (by rw [hs]; decide) ?z123 (light_any _ _ _ _ _ AM AD AW AP cM cD cW cP lm ld lw lp w2 hX.lm1 hX.ld1 hX.lw1 hX.lp1) ?z124
  case z123 => (intro o ho; obtain rfl := Option.some.inj ho; exact ⟨rfl, c_Light rfl rfl (ev_tmp h14)⟩)
  case z124 =>
  rintro _ w3 a ⟨rfl, l3⟩ F0
  rw [hlt] at F0
  replace hs := F0.z.trans hs
  replace hd := F0.e.trans hd
  replace h1 := (F0.n 1 (by decide)).trans h1
  replace h2 := (F0.n 2 (by decide)).trans h2
  replace h3 := (F0.n 3 (by decide)).trans h3
  replace h4 := (F0.n 4 (by decide)).trans h4
  replace h5 := (F0.n 5 (by decide)).trans h5
  replace h10 := (F0.n 10 (by decide)).trans h10
  replace h13 := (F0.n 13 (by decide)).trans h13
  clear h14
  have h15 := F0.s
  clear F0
  replace q1 := q1.below l3 q1.lt
  have m3 := m2.trans (l3.mono m2.size)
  clear m2 l3
  refine opL 2 16 (v := .bool false) (w' := w3) (by kernel_rfl) (by rw [hs]; decide) ?z125 ?z126
  case z125 => (intro o ho; obtain rfl := Option.some.inj ho; exact ⟨rfl, o_not rfl (ev_tmp h15) rfl⟩)
  case z126 =>
  intro a F0
  replace hs := F0.z.trans hs
  replace hd := F0.e.trans hd
  replace h1 := (F0.n 1 (by decide)).trans h1
  replace h2 := (F0.n 2 (by decide)).trans h2
  replace h3 := (F0.n 3 (by decide)).trans h3
  replace h4 := (F0.n 4 (by decide)).trans h4
  replace h5 := (F0.n 5 (by decide)).trans h5
  replace h10 := (F0.n 10 (by decide)).trans h10
  replace h13 := (F0.n 13 (by decide)).trans h13
  clear h15
  have h16 := F0.s
  clear F0
  refine wp_cond_false (ev_tmp h16) ?_
  refine wp_skip ?_
  refine wp_seq ?_
  refine wp_region (show wpOps _ _ _ [0, 1, 2, 3] _ _ from ?_)
  refine opL 0 17 (v := .agg #[.int .u8 F, .int .u8 I, .int .u8 E, .int .u16 C, .int .u32 U, .slice AM lm.length cM, .slice AD ld.length cD, .slice AW lw.length cW, .slice AP lp.length cP]) (w' := w3) (by kernel_rfl) (by rw [hs]; decide) ?z127 ?z128
  case z127 => (intro o ho; obtain rfl := Option.some.inj ho; exact ⟨rfl, k_load9 rfl (ev_tmp h5) q1⟩)
  case z128 =>
  intro a F0
  replace hs := F0.z.trans hs
  replace hd := F0.e.trans hd
  replace h1 := (F0.n 1 (by decide)).trans h1
  replace h2 := (F0.n 2 (by decide)).trans h2
  replace h3 := (F0.n 3 (by decide)).trans h3
  replace h4 := (F0.n 4 (by decide)).trans h4
  replace h5 := (F0.n 5 (by decide)).trans h5
  replace h10 := (F0.n 10 (by decide)).trans h10
  replace h13 := (F0.n 13 (by decide)).trans h13
  replace h16 := (F0.n 16 (by decide)).trans h16
  have h17 := F0.s
  clear F0
  have hc := make_any' F I E C U AM AD AW AP cM cD cW cP lm ld lw lp w3 ((hX.below m3).full hlt)
  have hx := fun ops Q rest d a i h1 h2 h3 => opL_call (P := Tryd.prog) (ops := ops) (Q := Q) (a := a) (w := w3) (rest := rest) i d h1 h2 h3 hc
  refine hx _ _ _ 18 _ 1 ?z129a ?z129b ?z129 ?z130
  case z129a => kernel_rfl
  case z129b => (rw [hs]; decide)
  case z129 => (intro o ho; obtain rfl := Option.some.inj ho; exact ⟨rfl, c_Make rfl rfl (ev_tmp h17)⟩)
  case z130 =>
  rintro _ w4 a ⟨A1, A2, A3, A4, c1, c2, c3, c4, tD, tW, tP, rfl, F4, l4⟩ F0
  replace hs := F0.z.trans hs
  replace hd := F0.e.trans hd
  replace h1 := (F0.n 1 (by decide)).trans h1
  replace h2 := (F0.n 2 (by decide)).trans h2
  replace h3 := (F0.n 3 (by decide)).trans h3
  replace h4 := (F0.n 4 (by decide)).trans h4
  replace h5 := (F0.n 5 (by decide)).trans h5
  replace h10 := (F0.n 10 (by decide)).trans h10
  replace h13 := (F0.n 13 (by decide)).trans h13
  replace h16 := (F0.n 16 (by decide)).trans h16
  clear h17
  have h18 := F0.s
  clear F0
  clear hx hc
  have m4 := m3.trans (l4.mono m3.size)
  clear m3
  refine opL 2 11 (v := .pointer (some ⟨w4.heap.size, 0, none⟩)) (w' := (w4.alloc (.cells #[.int .i64 0, .int .i64 0, .int .i64 0, .int .i64 0, .slice none 0 0, .slice none 0 0, .slice none 0 0, .slice none 0 0] 39))) (by kernel_rfl) (by rw [hs]; decide) ?z131 ?z132
  case z131 => (intro o ho; obtain rfl := Option.some.inj ho; exact ⟨rfl, k_allocR rfl⟩)
  case z132 =>
  intro a F0
  replace hs := F0.z.trans hs
  replace hd := F0.e.trans hd
  replace h1 := (F0.n 1 (by decide)).trans h1
  replace h2 := (F0.n 2 (by decide)).trans h2
  replace h3 := (F0.n 3 (by decide)).trans h3
  replace h4 := (F0.n 4 (by decide)).trans h4
  replace h5 := (F0.n 5 (by decide)).trans h5
  replace h10 := (F0.n 10 (by decide)).trans h10
  replace h13 := (F0.n 13 (by decide)).trans h13
  replace h16 := (F0.n 16 (by decide)).trans h16
  replace h18 := (F0.n 18 (by decide)).trans h18
  have h11 := F0.s
  clear F0
  obtain ⟨w5, hw5⟩ : ∃ wn, wn = w4.alloc (.cells #[.int .i64 0, .int .i64 0, .int .i64 0, .int .i64 0, .slice none 0 0, .slice none 0 0, .slice none 0 0, .slice none 0 0] 39) := ⟨_, rfl⟩
  rw [← hw5]
  have q5 : Blk w5 w4.heap.size 39 #[.int .i64 0, .int .i64 0, .int .i64 0, .int .i64 0, .slice none 0 0, .slice none 0 0, .slice none 0 0, .slice none 0 0] := by rw [hw5]; exact Blk.alloc _ _ _
  have l5 : Below w4.heap.size w4 w5 := by rw [hw5]; exact (Below.refl _ _).alloc (Nat.le_refl _) _
  clear hw5
  refine opL_store 3 (w' := (w5.setRow w4.heap.size #[.int .i64 (F.tmod 4), .int .i64 (Mk.iv I), .int .i64 (Mk.cnt E C), .int .i64 (Mk.unt E U), .slice A1 (Mk.mon lm).length c1, .slice A2 (Mk.D F ld).length c2, .slice A3 ((Mk.W F lw).map (·.1)).length c3, .slice A4 (Mk.P F lm ld lw lp).length c4])) (by kernel_rfl) ?z133 ?z134
  case z133 => (intro o ho; obtain rfl := Option.some.inj ho; exact ⟨rfl, k_storeR rfl (ev_tmp h11) (ev_tmp h18) q5 rfl rfl (by simp [Value.oneCell'])⟩)
  case z134 =>
  obtain ⟨w6, hw6⟩ : ∃ wn, wn = w5.setRow w4.heap.size #[.int .i64 (F.tmod 4), .int .i64 (Mk.iv I), .int .i64 (Mk.cnt E C), .int .i64 (Mk.unt E U), .slice A1 (Mk.mon lm).length c1, .slice A2 (Mk.D F ld).length c2, .slice A3 ((Mk.W F lw).map (·.1)).length c3, .slice A4 (Mk.P F lm ld lw lp).length c4] := ⟨_, rfl⟩
  rw [← hw6]
  have B6 : Blk w6 w4.heap.size 39 #[.int .i64 (F.tmod 4), .int .i64 (Mk.iv I), .int .i64 (Mk.cnt E C), .int .i64 (Mk.unt E U), .slice A1 (Mk.mon lm).length c1, .slice A2 (Mk.D F ld).length c2, .slice A3 ((Mk.W F lw).map (·.1)).length c3, .slice A4 (Mk.P F lm ld lw lp).length c4] := by rw [hw6]; exact q5.setRow
  have l6 : Below w4.heap.size w4 w6 := by rw [hw6]; exact l5.trans ((exc_setRow w5 w4.heap.size #[.int .i64 (F.tmod 4), .int .i64 (Mk.iv I), .int .i64 (Mk.cnt E C), .int .i64 (Mk.unt E U), .slice A1 (Mk.mon lm).length c1, .slice A2 (Mk.D F ld).length c2, .slice A3 ((Mk.W F lw).map (·.1)).length c3, .slice A4 (Mk.P F lm ld lw lp).length c4] w4.heap.size).below (Nat.le_refl _))
  clear hw6 q5 l5
  have L4 := F4.lists
  refine wp_seq ?_
  have hx := fun Q hQ => regFew6 a w6 w4 w4 Q hQ _ _ _ _ _ _ _ _ _ _ _ _ _ _ _ _ _ _ _ _ hd hs h1 h2 h3 h4 h11 B6 F4.oM F4.oD hna hnb lM lD
  refine hx _ ?hb6 ?hr6
  case hb6 => (repeat (first | exact hQ | refine blind_then ?_ | refine blind_block ?_))
  case hr6 =>
  clear hx
  intro a w7 z' e' k1' k2' k3' B7 e7
  replace hs := z'
  replace hd := e'
  clear h1
  clear h2
  clear h5
  clear h10
  clear h13
  clear h16
  clear h18
  replace h3 := k1'
  replace h4 := k2'
  replace h11 := k3'
  refine wp_seq ?_
  have hx := fun Q hQ => regFew7 a w7 w4 w4 Q hQ _ _ _ _ _ _ _ _ _ _ _ _ _ _ _ _ _ _ hd hs h3 h4 h11 B7 F4.oW F4.oP hnc hnd lW lP
  refine hx _ ?hb7 ?hr7
  case hb7 => (repeat (first | exact hQ | refine blind_then ?_ | refine blind_block ?_))
  case hr7 =>
  clear hx
  intro a w8 z' e'  k3' B8 e8
  replace hs := z'
  replace hd := e'
  clear h3
  clear h4
  replace h11 := k3'
  have n8 := l6.trans (((e7 w4.heap.size).trans (e8 w4.heap.size)).below (Nat.le_refl _))
  have F8 := F4.below n8
  have L8 : ListsIn w8 (cutA A1 c1 (cutN na (Mk.mon lm).length) 1) A2 (cutA A3 c3 (cutN nc ((Mk.W F lw).map (·.1)).length) 2) A4 (List.drop (cutN na (Mk.mon lm).length) (Mk.mon lm)) (List.take (cutN nb (Mk.D F ld).length) (Mk.D F ld)) (List.drop (cutN nc ((Mk.W F lw).map (·.1)).length) ((Mk.W F lw).map (·.1))) (List.take (cutN nd (Mk.P F lm ld lw lp).length) (Mk.P F lm ld lw lp)) := ⟨F8.oM.dropIn, F8.lists.d.take _, F8.oW.dropIn, F8.lists.p.take _, Nat.le_trans (by rw [List.length_drop]; omega) L4.lm, Nat.le_trans (by rw [List.length_take]; omega) L4.ld, Nat.le_trans (by rw [List.length_drop]; omega) L4.lk, Nat.le_trans (by rw [List.length_take]; omega) L4.lp⟩
  refine wp_seq ?_
  refine wp_seq ?_
  refine wp_region (show wpOps _ _ _ [0, 1, 2, 3, 4, 5, 6, 7, 8] _ _ from ?_)
  refine opL 0 63 (v := .pointer (some ⟨w4.heap.size, 7, none⟩)) (w' := w8) (by kernel_rfl) (by rw [hs]; decide) ?z135 ?z136
  case z135 => (intro o ho; obtain rfl := Option.some.inj ho; exact ⟨rfl, k_field7 rfl (ev_tmp h11)⟩)
  case z136 =>
  intro a F0
  replace hs := F0.z.trans hs
  replace hd := F0.e.trans hd
  replace h11 := (F0.n 11 (by decide)).trans h11
  have h63 := F0.s
  clear F0
  refine opL 1 64 (v := .slice A4 (List.take (cutN nd (Mk.P F lm ld lw lp).length) (Mk.P F lm ld lw lp)).length c4) (w' := w8) (by kernel_rfl) (by rw [hs]; decide) ?z137 ?z138
  case z137 => (intro o ho; obtain rfl := Option.some.inj ho; exact ⟨rfl, k_loadL rfl (ev_tmp h63) (B8.cell 7)⟩)
  case z138 =>
  intro a F0
  replace hs := F0.z.trans hs
  replace hd := F0.e.trans hd
  replace h11 := (F0.n 11 (by decide)).trans h11
  clear h63
  have h64 := F0.s
  clear F0
  refine opL 2 65 (v := .int .i64 (List.take (cutN nd (Mk.P F lm ld lw lp).length) (Mk.P F lm ld lw lp)).length) (w' := w8) (by kernel_rfl) (by rw [hs]; decide) ?z139 ?z140
  case z139 => (intro o ho; obtain rfl := Option.some.inj ho; exact ⟨rfl, k_lenL rfl (ev_tmp h64)⟩)
  case z140 =>
  intro a F0
  replace hs := F0.z.trans hs
  replace hd := F0.e.trans hd
  replace h11 := (F0.n 11 (by decide)).trans h11
  clear h64
  have h65 := F0.s
  clear F0
  refine opL 3 66 (v := .bool false) (w' := w8) (by kernel_rfl) (by rw [hs]; decide) ?z141 ?z142
  case z141 => (intro o ho; obtain rfl := Option.some.inj ho; exact ⟨rfl, o_gtI rfl (ev_tmp h65) rfl gpos⟩)
  case z142 =>
  intro a F0
  replace hs := F0.z.trans hs
  replace hd := F0.e.trans hd
  replace h11 := (F0.n 11 (by decide)).trans h11
  clear h65
  have h66 := F0.s
  clear F0
  refine opL 4 67 (v := .bool false) (w' := w8) (by kernel_rfl) (by rw [hs]; decide) ?z143 ?z144
  case z143 => (intro o ho; obtain rfl := Option.some.inj ho; exact ⟨rfl, k_move rfl (ev_tmp h66)⟩)
  case z144 =>
  intro a F0
  replace hs := F0.z.trans hs
  replace hd := F0.e.trans hd
  replace h11 := (F0.n 11 (by decide)).trans h11
  clear h66
  have h67 := F0.s
  clear F0
  refine opL_not 5 68 (by kernel_rfl) (by rw [hs]; decide) ?z145 ?z146
  case z145 => (intro o ho; obtain rfl := Option.some.inj ho; exact wanted_at (b := false) (want := true) rfl (by kernel_rfl) h67)
  case z146 =>
  intro a F0
  replace hs := F0.z.trans hs
  replace hd := F0.e.trans hd
  replace h11 := (F0.n 11 (by decide)).trans h11
  replace h67 := (F0.n 67 (by decide)).trans h67
  have h68 := F0.s
  clear F0
  refine opL_not 6 69 (by kernel_rfl) (by rw [hs]; decide) ?z147 ?z148
  case z147 => (intro o ho; obtain rfl := Option.some.inj ho; exact wanted_at (b := false) (want := true) rfl (by kernel_rfl) h67)
  case z148 =>
  intro a F0
  replace hs := F0.z.trans hs
  replace hd := F0.e.trans hd
  replace h11 := (F0.n 11 (by decide)).trans h11
  replace h67 := (F0.n 67 (by decide)).trans h67
  clear h68
  have h69 := F0.s
  clear F0
  refine opL_not 7 70 (by kernel_rfl) (by rw [hs]; decide) ?z149 ?z150
  case z149 => (intro o ho; obtain rfl := Option.some.inj ho; exact wanted_at (b := false) (want := true) rfl (by kernel_rfl) h67)
  case z150 =>
  intro a F0
  replace hs := F0.z.trans hs
  replace hd := F0.e.trans hd
  replace h11 := (F0.n 11 (by decide)).trans h11
  replace h67 := (F0.n 67 (by decide)).trans h67
  clear h69
  have h70 := F0.s
  clear F0
  refine opL 8 71 (v := .bool false) (w' := w8) (by kernel_rfl) (by rw [hs]; decide) ?z151 ?z152
  case z151 => (intro o ho; obtain rfl := Option.some.inj ho; exact ⟨rfl, k_pick_no rfl (ev_tmp h67) rfl⟩)
  case z152 =>
  intro a F0
  replace hs := F0.z.trans hs
  replace hd := F0.e.trans hd
  replace h11 := (F0.n 11 (by decide)).trans h11
  clear h67
  clear h70
  have h71 := F0.s
  clear F0
  refine wp_cond_false (ev_tmp h71) ?_
  refine wp_skip ?_
  refine wp_seq ?_
  refine wp_region (show wpOps _ _ _ [0, 1, 2, 3] _ _ from ?_)
  refine opL 0 75 (v := .agg #[.int .i64 (F.tmod 4), .int .i64 (Mk.iv I), .int .i64 (Mk.cnt E C), .int .i64 (Mk.unt E U), .slice (cutA A1 c1 (cutN na (Mk.mon lm).length) 1) (List.drop (cutN na (Mk.mon lm).length) (Mk.mon lm)).length (c1 - cutN na (Mk.mon lm).length), .slice A2 (List.take (cutN nb (Mk.D F ld).length) (Mk.D F ld)).length c2, .slice (cutA A3 c3 (cutN nc ((Mk.W F lw).map (·.1)).length) 2) (List.drop (cutN nc ((Mk.W F lw).map (·.1)).length) ((Mk.W F lw).map (·.1))).length (c3 - cutN nc ((Mk.W F lw).map (·.1)).length), .slice A4 (List.take (cutN nd (Mk.P F lm ld lw lp).length) (Mk.P F lm ld lw lp)).length c4]) (w' := w8) (by kernel_rfl) (by rw [hs]; decide) ?z153 ?z154
  case z153 => (intro o ho; obtain rfl := Option.some.inj ho; exact ⟨rfl, k_loadR rfl (ev_tmp h11) B8.rule⟩)
  case z154 =>
  intro a F0
  replace hs := F0.z.trans hs
  replace hd := F0.e.trans hd
  replace h11 := (F0.n 11 (by decide)).trans h11
  replace h71 := (F0.n 71 (by decide)).trans h71
  have h75 := F0.s
  clear F0
  have hc := check_any' (F.tmod 4) (Mk.iv I) (Mk.cnt E C) (Mk.unt E U) (cutA A1 c1 (cutN na (Mk.mon lm).length) 1) A2 (cutA A3 c3 (cutN nc ((Mk.W F lw).map (·.1)).length) 2) A4 (c1 - cutN na (Mk.mon lm).length) c2 (c3 - cutN nc ((Mk.W F lw).map (·.1)).length) c4 (List.drop (cutN na (Mk.mon lm).length) (Mk.mon lm)) (List.take (cutN nb (Mk.D F ld).length) (Mk.D F ld)) (List.drop (cutN nc ((Mk.W F lw).map (·.1)).length) ((Mk.W F lw).map (·.1))) (List.take (cutN nd (Mk.P F lm ld lw lp).length) (Mk.P F lm ld lw lp)) w8 L8
  have hx := fun ops Q rest d a i h1 h2 h3 => opL_call (P := Tryd.prog) (ops := ops) (Q := Q) (a := a) (w := w8) (rest := rest) i d h1 h2 h3 hc
  refine hx _ _ _ 76 _ 1 ?z155a ?z155b ?z155 ?z156
  case z155a => kernel_rfl
  case z155b => (rw [hs]; decide)
  case z155 => (intro o ho; obtain rfl := Option.some.inj ho; exact ⟨rfl, k_callCheck rfl rfl (ev_tmp h75)⟩)
  case z156 =>
  rintro _ we a ⟨rfl, le⟩ F0
  rw [ck] at F0
  replace hs := F0.z.trans hs
  replace hd := F0.e.trans hd
  replace h11 := (F0.n 11 (by decide)).trans h11
  replace h71 := (F0.n 71 (by decide)).trans h71
  clear h75
  have h76 := F0.s
  clear F0
  clear hx hc
  refine opL 2 77 (v := .bool true) (w' := we) (by kernel_rfl) (by rw [hs]; decide) ?z157 ?z158
  case z157 => (intro o ho; obtain rfl := Option.some.inj ho; exact ⟨rfl, o_eqE rfl (ev_tmp h76) rfl (by decide)⟩)
  case z158 =>
  intro a F0
  replace hs := F0.z.trans hs
  replace hd := F0.e.trans hd
  replace h11 := (F0.n 11 (by decide)).trans h11
  replace h71 := (F0.n 71 (by decide)).trans h71
  clear h76
  have h77 := F0.s
  clear F0
  refine opL 3 10 (v := .bool true) (w' := we) (by kernel_rfl) (by rw [hs]; decide) ?z159 ?z160
  case z159 => (intro o ho; obtain rfl := Option.some.inj ho; exact ⟨rfl, k_assign rfl (ev_tmp h77)⟩)
  case z160 =>
  intro a F0
  replace hs := F0.z.trans hs
  replace hd := F0.e.trans hd
  replace h11 := (F0.n 11 (by decide)).trans h11
  replace h71 := (F0.n 71 (by decide)).trans h71
  clear h77
  have h10 := F0.s
  clear F0
  refine wp_ret ?_
  exact hfin a _ hd h10 (m4.trans ((n8.trans (le.mono n8.size)).mono m4.size))

set_option maxRecDepth 100000 in
set_option maxHeartbeats 1000000 in
theorem ruleFewer_some (F I E C U : Int) (AM AD AW AP : Option Addr) (cM cD cW cP : Nat) (lm ld : List Int) (lw : List (Int × Int)) (lp : List Int) (na nb nc nd : Int) (w : World) (hM : Months w) (hX : XIn0 w F I E C U AM AD AW AP lm ld lw lp) (hna : 0 ≤ na ∧ na ≤ 255) (hnb : 0 ≤ nb ∧ nb ≤ 255) (hnc : 0 ≤ nc ∧ nc ≤ 255) (hnd : 0 ≤ nd ∧ nd ≤ 255) (hlt : light lm ld lw lp = true) (gpos : decide ((0 : Int) < (((List.take (cutN nd (Mk.P F lm ld lw lp).length) (Mk.P F lm ld lw lp)).length : Nat) : Int)) = true) (gli : some3 (List.drop (cutN na (Mk.mon lm).length) (Mk.mon lm)) (List.take (cutN nb (Mk.D F ld).length) (Mk.D F ld)) (List.drop (cutN nc ((Mk.W F lw).map (·.1)).length) ((Mk.W F lw).map (·.1))) = true) :
    Calls Tryd.prog 4 #[.agg #[.int .u8 F, .int .u8 I, .int .u8 E, .int .u16 C, .int .u32 U, .slice AM lm.length cM, .slice AD ld.length cD, .slice AW lw.length cW, .slice AP lp.length cP], .int .u8 na, .int .u8 nb, .int .u8 nc, .int .u8 nd] w fun e w' => e = .returned (.bool true) ∧ Below w.heap.size w w' := by
  have ll : lm.length ≤ 20 ∧ ld.length ≤ 20 ∧ lw.length ≤ 20 ∧ lp.length ≤ 20 := by simpa [light] using hlt
  obtain ⟨k1, k2, k3, k4, k5, k6, k7, k8, k9, k10, k11, k12, k13, k14⟩ := make_ok (hX.full hlt) (by omega) (by omega) (by omega) (by omega)
  have ck : Rul.check (F.tmod 4) (Mk.iv I) (Mk.cnt E C) (Mk.unt E U) (List.drop (cutN na (Mk.mon lm).length) (Mk.mon lm)) (List.take (cutN nb (Mk.D F ld).length) (Mk.D F ld)) (List.drop (cutN nc ((Mk.W F lw).map (·.1)).length) ((Mk.W F lw).map (·.1))) (List.take (cutN nd (Mk.P F lm ld lw lp).length) (Mk.P F lm ld lw lp)) = 0 := by
    rw [fewer_check _ _ _ _ k1 k2 k3 k4 k5 k6 k7 k8 k9 k10 k12 k13]
    have gp : decide (0 < (List.take (cutN nd (Mk.P F lm ld lw lp).length) (Mk.P F lm ld lw lp)).length) = true := by simpa using gpos
    rw [gp, gli]
    rfl
  have lM : (Mk.mon lm).length ≤ 1000 := by omega
  have lD : (Mk.D F ld).length ≤ 1000 := by omega
  have lW : ((Mk.W F lw).map (·.1)).length ≤ 1000 := by omega
  have lP : (Mk.P F lm ld lw lp).length ≤ 1000 := by omega
  clear k1 k2 k3 k4 k5 k6 k7 k8 k9 k10 k11 k12 k13 k14
  refine calls_of_wp Tryd.func4 (show Tryd.f4.body = some ruleFewerBody from rfl) ?_
  generalize hA : (Act.mk (#[.agg #[.int .u8 F, .int .u8 I, .int .u8 E, .int .u16 C, .int .u32 U, .slice AM lm.length cM, .slice AD ld.length cD, .slice AW lw.length cW, .slice AP lp.length cP], .int .u8 na, .int .u8 nb, .int .u8 nc, .int .u8 nd] ++ Array.replicate (Tryd.f4.ntmps - (#[.agg #[.int .u8 F, .int .u8 I, .int .u8 E, .int .u16 C, .int .u32 U, .slice AM lm.length cM, .slice AD ld.length cD, .slice AW lw.length cW, .slice AP lp.length cP], .int .u8 na, .int .u8 nb, .int .u8 nc, .int .u8 nd] : Array Value).size) undef) []) = a
  have hs : a.tmps.size = 78 := by rw [← hA]; simp [Tryd.ntmps4]
  have hd : a.defers = [] := by rw [← hA]
  have h0 : a.tmps.getD 0 undef = .agg #[.int .u8 F, .int .u8 I, .int .u8 E, .int .u16 C, .int .u32 U, .slice AM lm.length cM, .slice AD ld.length cD, .slice AW lw.length cW, .slice AP lp.length cP] := by rw [← hA]; simp
  have h1 : a.tmps.getD 1 undef = .int .u8 na := by rw [← hA]; simp
  have h2 : a.tmps.getD 2 undef = .int .u8 nb := by rw [← hA]; simp
  have h3 : a.tmps.getD 3 undef = .int .u8 nc := by rw [← hA]; simp
  have h4 : a.tmps.getD 4 undef = .int .u8 nd := by rw [← hA]; simp
  clear hA
  refine Code.wp_mono NoPanic.imp ?_
  have hQ : Blind (NoPanic (bodyPost Tryd.prog Tryd.f4 fun e w' => e = .returned (.bool true) ∧ Below w.heap.size w w')) := fun _ _ _ _ q => q.elim
  have hfin : ∀ (a' : Act) (w' : World), a'.defers = [] → a'.tmps.getD 10 undef = .bool true → Below w.heap.size w w' → NoPanic (bodyPost Tryd.prog Tryd.f4 fun e w' => e = .returned (.bool true) ∧ Below w.heap.size w w') .ret a' w' := by
    intro a' w' k1 k2 k3
    exact ⟨k1, _, results_tmp rfl _ _ _, by rw [k2], k3⟩
  generalize NoPanic (bodyPost Tryd.prog Tryd.f4 fun e w' => e = .returned (.bool true) ∧ Below w.heap.size w w') = Q at hQ hfin
  unfold ruleFewerBody
  conv => arg 2; whnf
  refine wp_seq ?_
  refine wp_region (show wpOps _ _ _ [0, 1] _ _ from ?_)
  refine opL 0 5 (v := .pointer (some ⟨w.heap.size, 0, none⟩)) (w' := (w.alloc (.cells #[.int .u8 F, .int .u8 I, .int .u8 E, .int .u16 C, .int .u32 U, .slice AM lm.length cM, .slice AD ld.length cD, .slice AW lw.length cW, .slice AP lp.length cP] 31))) (by kernel_rfl) (by rw [hs]; decide) ?z161 ?z162
  case z161 => (intro o ho; obtain rfl := Option.some.inj ho; exact ⟨rfl, k_box9 rfl (ev_tmp h0)⟩)
  case z162 =>
  intro a F0
  replace hs := F0.z.trans hs
  replace hd := F0.e.trans hd
  clear h0
  replace h1 := (F0.n 1 (by decide)).trans h1
  replace h2 := (F0.n 2 (by decide)).trans h2
  replace h3 := (F0.n 3 (by decide)).trans h3
  replace h4 := (F0.n 4 (by decide)).trans h4
  have h5 := F0.s
  clear F0
  obtain ⟨w1, hw1⟩ : ∃ wn, wn = w.alloc (.cells #[.int .u8 F, .int .u8 I, .int .u8 E, .int .u16 C, .int .u32 U, .slice AM lm.length cM, .slice AD ld.length cD, .slice AW lw.length cW, .slice AP lp.length cP] 31) := ⟨_, rfl⟩
  rw [← hw1]
  have q1 : Blk w1 w.heap.size 31 #[.int .u8 F, .int .u8 I, .int .u8 E, .int .u16 C, .int .u32 U, .slice AM lm.length cM, .slice AD ld.length cD, .slice AW lw.length cW, .slice AP lp.length cP] := by rw [hw1]; exact Blk.alloc _ _ _
  have l1 : Below w.heap.size w w1 := by rw [hw1]; exact (Below.refl _ _).alloc (Nat.le_refl _) _
  clear hw1
  refine opL 1 10 (v := .bool false) (w' := w1) (by kernel_rfl) (by rw [hs]; decide) ?z163 ?z164
  case z163 => (intro o ho; obtain rfl := Option.some.inj ho; exact ⟨rfl, k_assign rfl rfl⟩)
  case z164 =>
  intro a F0
  replace hs := F0.z.trans hs
  replace hd := F0.e.trans hd
  replace h1 := (F0.n 1 (by decide)).trans h1
  replace h2 := (F0.n 2 (by decide)).trans h2
  replace h3 := (F0.n 3 (by decide)).trans h3
  replace h4 := (F0.n 4 (by decide)).trans h4
  replace h5 := (F0.n 5 (by decide)).trans h5
  have h10 := F0.s
  clear F0
  refine wp_seq ?_
  refine wp_seq ?_
  refine wp_region (show wpOps _ _ _ [0, 1] _ _ from ?_)
  refine opL_call 0 12 (f := 5) (args := #[]) (R := fun v w' => v = .bool true ∧ Below w1.heap.size w1 w') (by kernel_rfl) (by rw [hs]; decide) ?z165 (awake2' w1 (hM.grown l1)) ?z166
  case z165 => (intro o ho; obtain rfl := Option.some.inj ho; exact ⟨rfl, k_callAwake rfl rfl⟩)
  case z166 =>
  rintro _ w2 a ⟨rfl, l2⟩ F0
  replace hs := F0.z.trans hs
  replace hd := F0.e.trans hd
  replace h1 := (F0.n 1 (by decide)).trans h1
  replace h2 := (F0.n 2 (by decide)).trans h2
  replace h3 := (F0.n 3 (by decide)).trans h3
  replace h4 := (F0.n 4 (by decide)).trans h4
  replace h5 := (F0.n 5 (by decide)).trans h5
  replace h10 := (F0.n 10 (by decide)).trans h10
  have h12 := F0.s
  clear F0
  replace q1 := q1.below l2 q1.lt
  have m2 := l1.trans (l2.mono l1.size)
  clear l1 l2
  refine opL 1 13 (v := .bool false) (w' := w2) (by kernel_rfl) (by rw [hs]; decide) ?z167 ?z168
  case z167 => (intro o ho; obtain rfl := Option.some.inj ho; exact ⟨rfl, o_not rfl (ev_tmp h12) rfl⟩)
  case z168 =>
  intro a F0
  replace hs := F0.z.trans hs
  replace hd := F0.e.trans hd
  replace h1 := (F0.n 1 (by decide)).trans h1
  replace h2 := (F0.n 2 (by decide)).trans h2
  replace h3 := (F0.n 3 (by decide)).trans h3
  replace h4 := (F0.n 4 (by decide)).trans h4
  replace h5 := (F0.n 5 (by decide)).trans h5
  replace h10 := (F0.n 10 (by decide)).trans h10
  clear h12
  have h13 := F0.s
  clear F0
  refine wp_cond_false (ev_tmp h13) ?_
  refine wp_skip ?_
  refine wp_seq ?_
  refine wp_seq ?_
  refine wp_region (show wpOps _ _ _ [0, 1, 2] _ _ from ?_)
  refine opL 0 14 (v := .agg #[.int .u8 F, .int .u8 I, .int .u8 E, .int .u16 C, .int .u32 U, .slice AM lm.length cM, .slice AD ld.length cD, .slice AW lw.length cW, .slice AP lp.length cP]) (w' := w2) (by kernel_rfl) (by rw [hs]; decide) ?z169 ?z170
  case z169 => (intro o ho; obtain rfl := Option.some.inj ho; exact ⟨rfl, k_load9 rfl (ev_tmp h5) q1⟩)
  case z170 =>
  intro a F0
  replace hs := F0.z.trans hs
  replace hd := F0.e.trans hd
  replace h1 := (F0.n 1 (by decide)).trans h1
  replace h2 := (F0.n 2 (by decide)).trans h2
  replace h3 := (F0.n 3 (by decide)).trans h3
  replace h4 := (F0.n 4 (by decide)).trans h4
  replace h5 := (F0.n 5 (by decide)).trans h5
  replace h10 := (F0.n 10 (by decide)).trans h10
  replace h13 := (F0.n 13 (by decide)).trans h13
  have h14 := F0.s
  clear F0
  refine opL_call 1 15 (f := 6) (args := #[.agg #[.int .u8 F, .int .u8 I, .int .u8 E, .int .u16 C, .int .u32 U, .slice AM lm.length cM, .slice AD ld.length cD, .slice AW lw.length cW, .slice AP lp.length cP]]) (R := fun v w' => v = .bool (light lm ld lw lp) ∧ Below w2.heap.size w2 w') (by kernel_rfl) (by rw [hs]; decide) ?z171 (light_any _ _ _ _ _ AM AD AW AP cM cD cW cP lm ld lw lp w2 hX.lm1 hX.ld1 hX.lw1 hX.lp1) ?z172
  case z171 => (intro o ho; obtain rfl := Option.some.inj ho; exact ⟨rfl, c_Light rfl rfl (ev_tmp h14)⟩)
  case z172 =>
  rintro _ w3 a ⟨rfl, l3⟩ F0
  rw [hlt] at F0
  replace hs := F0.z.trans hs
  replace hd := F0.e.trans hd
  replace h1 := (F0.n 1 (by decide)).trans h1
  replace h2 := (F0.n 2 (by decide)).trans h2
  replace h3 := (F0.n 3 (by decide)).trans h3
  replace h4 := (F0.n 4 (by decide)).trans h4
  replace h5 := (F0.n 5 (by decide)).trans h5
  replace h10 := (F0.n 10 (by decide)).trans h10
  replace h13 := (F0.n 13 (by decide)).trans h13
  clear h14
  have h15 := F0.s
  clear F0
  replace q1 := q1.below l3 q1.lt
  have m3 := m2.trans (l3.mono m2.size)
  clear m2 l3
  refine opL 2 16 (v := .bool false) (w' := w3) (by kernel_rfl) (by rw [hs]; decide) ?z173 ?z174
  case z173 => (intro o ho; obtain rfl := Option.some.inj ho; exact ⟨rfl, o_not rfl (ev_tmp h15) rfl⟩)
  case z174 =>
  intro a F0
  replace hs := F0.z.trans hs
  replace hd := F0.e.trans hd
  replace h1 := (F0.n 1 (by decide)).trans h1
  replace h2 := (F0.n 2 (by decide)).trans h2
  replace h3 := (F0.n 3 (by decide)).trans h3
  replace h4 := (F0.n 4 (by decide)).trans h4
  replace h5 := (F0.n 5 (by decide)).trans h5
  replace h10 := (F0.n 10 (by decide)).trans h10
  replace h13 := (F0.n 13 (by decide)).trans h13
  clear h15
  have h16 := F0.s
  clear F0
  refine wp_cond_false (ev_tmp h16) ?_
  refine wp_skip ?_
  refine wp_seq ?_
  refine wp_region (show wpOps _ _ _ [0, 1, 2, 3] _ _ from ?_)
  refine opL 0 17 (v := .agg #[.int .u8 F, .int .u8 I, .int .u8 E, .int .u16 C, .int .u32 U, .slice AM lm.length cM, .slice AD ld.length cD, .slice AW lw.length cW, .slice AP lp.length cP]) (w' := w3) (by kernel_rfl) (by rw [hs]; decide) ?z175 ?z176
  case z175 => (intro o ho; obtain rfl := Option.some.inj ho; exact ⟨rfl, k_load9 rfl (ev_tmp h5) q1⟩)
  case z176 =>
  intro a F0
  replace hs := F0.z.trans hs
  replace hd := F0.e.trans hd
  replace h1 := (F0.n 1 (by decide)).trans h1
  replace h2 := (F0.n 2 (by decide)).trans h2
  replace h3 := (F0.n 3 (by decide)).trans h3
  replace h4 := (F0.n 4 (by decide)).trans h4
  replace h5 := (F0.n 5 (by decide)).trans h5
  replace h10 := (F0.n 10 (by decide)).trans h10
  replace h13 := (F0.n 13 (by decide)).trans h13
  replace h16 := (F0.n 16 (by decide)).trans h16
  have h17 := F0.s
  clear F0
  have hc := make_any' F I E C U AM AD AW AP cM cD cW cP lm ld lw lp w3 ((hX.below m3).full hlt)
  have hx := fun ops Q rest d a i h1 h2 h3 => opL_call (P := Tryd.prog) (ops := ops) (Q := Q) (a := a) (w := w3) (rest := rest) i d h1 h2 h3 hc
  refine hx _ _ _ 18 _ 1 ?z177a ?z177b ?z177 ?z178
  case z177a => kernel_rfl
  case z177b => (rw [hs]; decide)
  case z177 => (intro o ho; obtain rfl := Option.some.inj ho; exact ⟨rfl, c_Make rfl rfl (ev_tmp h17)⟩)
  case z178 =>
  rintro _ w4 a ⟨A1, A2, A3, A4, c1, c2, c3, c4, tD, tW, tP, rfl, F4, l4⟩ F0
  replace hs := F0.z.trans hs
  replace hd := F0.e.trans hd
  replace h1 := (F0.n 1 (by decide)).trans h1
  replace h2 := (F0.n 2 (by decide)).trans h2
  replace h3 := (F0.n 3 (by decide)).trans h3
  replace h4 := (F0.n 4 (by decide)).trans h4
  replace h5 := (F0.n 5 (by decide)).trans h5
  replace h10 := (F0.n 10 (by decide)).trans h10
  replace h13 := (F0.n 13 (by decide)).trans h13
  replace h16 := (F0.n 16 (by decide)).trans h16
  clear h17
  have h18 := F0.s
  clear F0
  clear hx hc
  have m4 := m3.trans (l4.mono m3.size)
  clear m3
  refine opL 2 11 (v := .pointer (some ⟨w4.heap.size, 0, none⟩)) (w' := (w4.alloc (.cells #[.int .i64 0, .int .i64 0, .int .i64 0, .int .i64 0, .slice none 0 0, .slice none 0 0, .slice none 0 0, .slice none 0 0] 39))) (by kernel_rfl) (by rw [hs]; decide) ?z179 ?z180
  case z179 => (intro o ho; obtain rfl := Option.some.inj ho; exact ⟨rfl, k_allocR rfl⟩)
  case z180 =>
  intro a F0
  replace hs := F0.z.trans hs
  replace hd := F0.e.trans hd
  replace h1 := (F0.n 1 (by decide)).trans h1
  replace h2 := (F0.n 2 (by decide)).trans h2
  replace h3 := (F0.n 3 (by decide)).trans h3
  replace h4 := (F0.n 4 (by decide)).trans h4
  replace h5 := (F0.n 5 (by decide)).trans h5
  replace h10 := (F0.n 10 (by decide)).trans h10
  replace h13 := (F0.n 13 (by decide)).trans h13
  replace h16 := (F0.n 16 (by decide)).trans h16
  replace h18 := (F0.n 18 (by decide)).trans h18
  have h11 := F0.s
  clear F0
  obtain ⟨w5, hw5⟩ : ∃ wn, wn = w4.alloc (.cells #[.int .i64 0, .int .i64 0, .int .i64 0, .int .i64 0, .slice none 0 0, .slice none 0 0, .slice none 0 0, .slice none 0 0] 39) := ⟨_, rfl⟩
  rw [← hw5]
  have q5 : Blk w5 w4.heap.size 39 #[.int .i64 0, .int .i64 0, .int .i64 0, .int .i64 0, .slice none 0 0, .slice none 0 0, .slice none 0 0, .slice none 0 0] := by rw [hw5]; exact Blk.alloc _ _ _
  have l5 : Below w4.heap.size w4 w5 := by rw [hw5]; exact (Below.refl _ _).alloc (Nat.le_refl _) _
  clear hw5
  refine opL_store 3 (w' := (w5.setRow w4.heap.size #[.int .i64 (F.tmod 4), .int .i64 (Mk.iv I), .int .i64 (Mk.cnt E C), .int .i64 (Mk.unt E U), .slice A1 (Mk.mon lm).length c1, .slice A2 (Mk.D F ld).length c2, .slice A3 ((Mk.W F lw).map (·.1)).length c3, .slice A4 (Mk.P F lm ld lw lp).length c4])) (by kernel_rfl) ?z181 ?z182
  case z181 => (intro o ho; obtain rfl := Option.some.inj ho; exact ⟨rfl, k_storeR rfl (ev_tmp h11) (ev_tmp h18) q5 rfl rfl (by simp [Value.oneCell'])⟩)
  case z182 =>
  obtain ⟨w6, hw6⟩ : ∃ wn, wn = w5.setRow w4.heap.size #[.int .i64 (F.tmod 4), .int .i64 (Mk.iv I), .int .i64 (Mk.cnt E C), .int .i64 (Mk.unt E U), .slice A1 (Mk.mon lm).length c1, .slice A2 (Mk.D F ld).length c2, .slice A3 ((Mk.W F lw).map (·.1)).length c3, .slice A4 (Mk.P F lm ld lw lp).length c4] := ⟨_, rfl⟩
  rw [← hw6]
  have B6 : Blk w6 w4.heap.size 39 #[.int .i64 (F.tmod 4), .int .i64 (Mk.iv I), .int .i64 (Mk.cnt E C), .int .i64 (Mk.unt E U), .slice A1 (Mk.mon lm).length c1, .slice A2 (Mk.D F ld).length c2, .slice A3 ((Mk.W F lw).map (·.1)).length c3, .slice A4 (Mk.P F lm ld lw lp).length c4] := by rw [hw6]; exact q5.setRow
  have l6 : Below w4.heap.size w4 w6 := by rw [hw6]; exact l5.trans ((exc_setRow w5 w4.heap.size #[.int .i64 (F.tmod 4), .int .i64 (Mk.iv I), .int .i64 (Mk.cnt E C), .int .i64 (Mk.unt E U), .slice A1 (Mk.mon lm).length c1, .slice A2 (Mk.D F ld).length c2, .slice A3 ((Mk.W F lw).map (·.1)).length c3, .slice A4 (Mk.P F lm ld lw lp).length c4] w4.heap.size).below (Nat.le_refl _))
  clear hw6 q5 l5
  have L4 := F4.lists
  refine wp_seq ?_
  have hx := fun Q hQ => regFew6 a w6 w4 w4 Q hQ _ _ _ _ _ _ _ _ _ _ _ _ _ _ _ _ _ _ _ _ hd hs h1 h2 h3 h4 h11 B6 F4.oM F4.oD hna hnb lM lD
  refine hx _ ?hb6 ?hr6
  case hb6 => (repeat (first | exact hQ | refine blind_then ?_ | refine blind_block ?_))
  case hr6 =>
  clear hx
  intro a w7 z' e' k1' k2' k3' B7 e7
  replace hs := z'
  replace hd := e'
  clear h1
  clear h2
  clear h5
  clear h10
  clear h13
  clear h16
  clear h18
  replace h3 := k1'
  replace h4 := k2'
  replace h11 := k3'
  refine wp_seq ?_
  have hx := fun Q hQ => regFew7 a w7 w4 w4 Q hQ _ _ _ _ _ _ _ _ _ _ _ _ _ _ _ _ _ _ hd hs h3 h4 h11 B7 F4.oW F4.oP hnc hnd lW lP
  refine hx _ ?hb7 ?hr7
  case hb7 => (repeat (first | exact hQ | refine blind_then ?_ | refine blind_block ?_))
  case hr7 =>
  clear hx
  intro a w8 z' e'  k3' B8 e8
  replace hs := z'
  replace hd := e'
  clear h3
  clear h4
  replace h11 := k3'
  have n8 := l6.trans (((e7 w4.heap.size).trans (e8 w4.heap.size)).below (Nat.le_refl _))
  have F8 := F4.below n8
  have L8 : ListsIn w8 (cutA A1 c1 (cutN na (Mk.mon lm).length) 1) A2 (cutA A3 c3 (cutN nc ((Mk.W F lw).map (·.1)).length) 2) A4 (List.drop (cutN na (Mk.mon lm).length) (Mk.mon lm)) (List.take (cutN nb (Mk.D F ld).length) (Mk.D F ld)) (List.drop (cutN nc ((Mk.W F lw).map (·.1)).length) ((Mk.W F lw).map (·.1))) (List.take (cutN nd (Mk.P F lm ld lw lp).length) (Mk.P F lm ld lw lp)) := ⟨F8.oM.dropIn, F8.lists.d.take _, F8.oW.dropIn, F8.lists.p.take _, Nat.le_trans (by rw [List.length_drop]; omega) L4.lm, Nat.le_trans (by rw [List.length_take]; omega) L4.ld, Nat.le_trans (by rw [List.length_drop]; omega) L4.lk, Nat.le_trans (by rw [List.length_take]; omega) L4.lp⟩
  refine wp_seq ?_
  refine wp_seq ?_
  refine wp_region (show wpOps _ _ _ [0, 1, 2, 3, 4, 5, 6, 7, 8] _ _ from ?_)
  refine opL 0 63 (v := .pointer (some ⟨w4.heap.size, 7, none⟩)) (w' := w8) (by kernel_rfl) (by rw [hs]; decide) ?z183 ?z184
  case z183 => (intro o ho; obtain rfl := Option.some.inj ho; exact ⟨rfl, k_field7 rfl (ev_tmp h11)⟩)
  case z184 =>
  intro a F0
  replace hs := F0.z.trans hs
  replace hd := F0.e.trans hd
  replace h11 := (F0.n 11 (by decide)).trans h11
  have h63 := F0.s
  clear F0
  refine opL 1 64 (v := .slice A4 (List.take (cutN nd (Mk.P F lm ld lw lp).length) (Mk.P F lm ld lw lp)).length c4) (w' := w8) (by kernel_rfl) (by rw [hs]; decide) ?z185 ?z186
  case z185 => (intro o ho; obtain rfl := Option.some.inj ho; exact ⟨rfl, k_loadL rfl (ev_tmp h63) (B8.cell 7)⟩)
  case z186 =>
  intro a F0
  replace hs := F0.z.trans hs
  replace hd := F0.e.trans hd
  replace h11 := (F0.n 11 (by decide)).trans h11
  clear h63
  have h64 := F0.s
  clear F0
  refine opL 2 65 (v := .int .i64 (List.take (cutN nd (Mk.P F lm ld lw lp).length) (Mk.P F lm ld lw lp)).length) (w' := w8) (by kernel_rfl) (by rw [hs]; decide) ?z187 ?z188
  case z187 => (intro o ho; obtain rfl := Option.some.inj ho; exact ⟨rfl, k_lenL rfl (ev_tmp h64)⟩)
  case z188 =>
  intro a F0
  replace hs := F0.z.trans hs
  replace hd := F0.e.trans hd
  replace h11 := (F0.n 11 (by decide)).trans h11
  clear h64
  have h65 := F0.s
  clear F0
  refine opL 3 66 (v := .bool true) (w' := w8) (by kernel_rfl) (by rw [hs]; decide) ?z189 ?z190
  case z189 => (intro o ho; obtain rfl := Option.some.inj ho; exact ⟨rfl, o_gtI rfl (ev_tmp h65) rfl gpos⟩)
  case z190 =>
  intro a F0
  replace hs := F0.z.trans hs
  replace hd := F0.e.trans hd
  replace h11 := (F0.n 11 (by decide)).trans h11
  clear h65
  have h66 := F0.s
  clear F0
  refine opL 4 67 (v := .bool true) (w' := w8) (by kernel_rfl) (by rw [hs]; decide) ?z191 ?z192
  case z191 => (intro o ho; obtain rfl := Option.some.inj ho; exact ⟨rfl, k_move rfl (ev_tmp h66)⟩)
  case z192 =>
  intro a F0
  replace hs := F0.z.trans hs
  replace hd := F0.e.trans hd
  replace h11 := (F0.n 11 (by decide)).trans h11
  clear h66
  have h67 := F0.s
  clear F0
  refine opL 5 68 (v := .agg #[.int .i64 (F.tmod 4), .int .i64 (Mk.iv I), .int .i64 (Mk.cnt E C), .int .i64 (Mk.unt E U), .slice (cutA A1 c1 (cutN na (Mk.mon lm).length) 1) (List.drop (cutN na (Mk.mon lm).length) (Mk.mon lm)).length (c1 - cutN na (Mk.mon lm).length), .slice A2 (List.take (cutN nb (Mk.D F ld).length) (Mk.D F ld)).length c2, .slice (cutA A3 c3 (cutN nc ((Mk.W F lw).map (·.1)).length) 2) (List.drop (cutN nc ((Mk.W F lw).map (·.1)).length) ((Mk.W F lw).map (·.1))).length (c3 - cutN nc ((Mk.W F lw).map (·.1)).length), .slice A4 (List.take (cutN nd (Mk.P F lm ld lw lp).length) (Mk.P F lm ld lw lp)).length c4]) (w' := w8) (by kernel_rfl) (by rw [hs]; decide) ?z193 ?z194
  case z193 => (intro o ho; obtain rfl := Option.some.inj ho; exact ⟨wanted_at (b := true) (want := true) rfl (by kernel_rfl) h67, k_loadR rfl (ev_tmp h11) B8.rule⟩)
  case z194 =>
  intro a F0
  replace hs := F0.z.trans hs
  replace hd := F0.e.trans hd
  replace h11 := (F0.n 11 (by decide)).trans h11
  replace h67 := (F0.n 67 (by decide)).trans h67
  have h68 := F0.s
  clear F0
  have hc := lists_any' (F.tmod 4) (Mk.iv I) (Mk.cnt E C) (Mk.unt E U) (cutA A1 c1 (cutN na (Mk.mon lm).length) 1) A2 (cutA A3 c3 (cutN nc ((Mk.W F lw).map (·.1)).length) 2) A4 (c1 - cutN na (Mk.mon lm).length) c2 (c3 - cutN nc ((Mk.W F lw).map (·.1)).length) c4 (List.drop (cutN na (Mk.mon lm).length) (Mk.mon lm)) (List.take (cutN nb (Mk.D F ld).length) (Mk.D F ld)) (List.drop (cutN nc ((Mk.W F lw).map (·.1)).length) ((Mk.W F lw).map (·.1))) (List.take (cutN nd (Mk.P F lm ld lw lp).length) (Mk.P F lm ld lw lp)) w8
  have hx := fun ops Q rest d a i h1 h2 h3 => opL_call (P := Tryd.prog) (ops := ops) (Q := Q) (a := a) (w := w8) (rest := rest) i d h1 h2 h3 hc
  refine hx _ _ _ 69 _ 6 ?z195a ?z195b ?z195 ?z196
  case z195a => kernel_rfl
  case z195b => (rw [hs]; decide)
  case z195 => (intro o ho; obtain rfl := Option.some.inj ho; exact ⟨wanted_at (b := true) (want := true) rfl (by kernel_rfl) h67, c_Lists rfl rfl (ev_tmp h68)⟩)
  case z196 =>
  rintro _ w9 a ⟨rfl, l9⟩ F0
  rw [gli] at F0
  replace hs := F0.z.trans hs
  replace hd := F0.e.trans hd
  replace h11 := (F0.n 11 (by decide)).trans h11
  replace h67 := (F0.n 67 (by decide)).trans h67
  clear h68
  have h69 := F0.s
  clear F0
  clear hx hc
  have B9 := B8.below l9 B8.lt
  have n9 := n8.trans (l9.mono n8.size)
  have L9 := L8.below l9
  refine opL 7 70 (v := .bool false) (w' := w9) (by kernel_rfl) (by rw [hs]; decide) ?z197 ?z198
  case z197 => (intro o ho; obtain rfl := Option.some.inj ho; exact ⟨wanted_at (b := true) (want := true) rfl (by kernel_rfl) h67, o_not rfl (ev_tmp h69) rfl⟩)
  case z198 =>
  intro a F0
  replace hs := F0.z.trans hs
  replace hd := F0.e.trans hd
  replace h11 := (F0.n 11 (by decide)).trans h11
  replace h67 := (F0.n 67 (by decide)).trans h67
  clear h69
  have h70 := F0.s
  clear F0
  refine opL 8 71 (v := .bool false) (w' := w9) (by kernel_rfl) (by rw [hs]; decide) ?z199 ?z200
  case z199 => (intro o ho; obtain rfl := Option.some.inj ho; exact ⟨rfl, k_pick_yes rfl (ev_tmp h67) (ev_tmp h70)⟩)
  case z200 =>
  intro a F0
  replace hs := F0.z.trans hs
  replace hd := F0.e.trans hd
  replace h11 := (F0.n 11 (by decide)).trans h11
  clear h67
  clear h70
  have h71 := F0.s
  clear F0
  refine wp_cond_false (ev_tmp h71) ?_
  refine wp_skip ?_
  refine wp_seq ?_
  refine wp_region (show wpOps _ _ _ [0, 1, 2, 3] _ _ from ?_)
  refine opL 0 75 (v := .agg #[.int .i64 (F.tmod 4), .int .i64 (Mk.iv I), .int .i64 (Mk.cnt E C), .int .i64 (Mk.unt E U), .slice (cutA A1 c1 (cutN na (Mk.mon lm).length) 1) (List.drop (cutN na (Mk.mon lm).length) (Mk.mon lm)).length (c1 - cutN na (Mk.mon lm).length), .slice A2 (List.take (cutN nb (Mk.D F ld).length) (Mk.D F ld)).length c2, .slice (cutA A3 c3 (cutN nc ((Mk.W F lw).map (·.1)).length) 2) (List.drop (cutN nc ((Mk.W F lw).map (·.1)).length) ((Mk.W F lw).map (·.1))).length (c3 - cutN nc ((Mk.W F lw).map (·.1)).length), .slice A4 (List.take (cutN nd (Mk.P F lm ld lw lp).length) (Mk.P F lm ld lw lp)).length c4]) (w' := w9) (by kernel_rfl) (by rw [hs]; decide) ?z201 ?z202
  case z201 => (intro o ho; obtain rfl := Option.some.inj ho; exact ⟨rfl, k_loadR rfl (ev_tmp h11) B9.rule⟩)
  case z202 =>
  intro a F0
  replace hs := F0.z.trans hs
  replace hd := F0.e.trans hd
  replace h11 := (F0.n 11 (by decide)).trans h11
  replace h71 := (F0.n 71 (by decide)).trans h71
  have h75 := F0.s
  clear F0
  have hc := check_any' (F.tmod 4) (Mk.iv I) (Mk.cnt E C) (Mk.unt E U) (cutA A1 c1 (cutN na (Mk.mon lm).length) 1) A2 (cutA A3 c3 (cutN nc ((Mk.W F lw).map (·.1)).length) 2) A4 (c1 - cutN na (Mk.mon lm).length) c2 (c3 - cutN nc ((Mk.W F lw).map (·.1)).length) c4 (List.drop (cutN na (Mk.mon lm).length) (Mk.mon lm)) (List.take (cutN nb (Mk.D F ld).length) (Mk.D F ld)) (List.drop (cutN nc ((Mk.W F lw).map (·.1)).length) ((Mk.W F lw).map (·.1))) (List.take (cutN nd (Mk.P F lm ld lw lp).length) (Mk.P F lm ld lw lp)) w9 L9
  have hx := fun ops Q rest d a i h1 h2 h3 => opL_call (P := Tryd.prog) (ops := ops) (Q := Q) (a := a) (w := w9) (rest := rest) i d h1 h2 h3 hc
  refine hx _ _ _ 76 _ 1 ?z203a ?z203b ?z203 ?z204
  case z203a => kernel_rfl
  case z203b => (rw [hs]; decide)
  case z203 => (intro o ho; obtain rfl := Option.some.inj ho; exact ⟨rfl, k_callCheck rfl rfl (ev_tmp h75)⟩)
  case z204 =>
  rintro _ we a ⟨rfl, le⟩ F0
  rw [ck] at F0
  replace hs := F0.z.trans hs
  replace hd := F0.e.trans hd
  replace h11 := (F0.n 11 (by decide)).trans h11
  replace h71 := (F0.n 71 (by decide)).trans h71
  clear h75
  have h76 := F0.s
  clear F0
  clear hx hc
  refine opL 2 77 (v := .bool true) (w' := we) (by kernel_rfl) (by rw [hs]; decide) ?z205 ?z206
  case z205 => (intro o ho; obtain rfl := Option.some.inj ho; exact ⟨rfl, o_eqE rfl (ev_tmp h76) rfl (by decide)⟩)
  case z206 =>
  intro a F0
  replace hs := F0.z.trans hs
  replace hd := F0.e.trans hd
  replace h11 := (F0.n 11 (by decide)).trans h11
  replace h71 := (F0.n 71 (by decide)).trans h71
  clear h76
  have h77 := F0.s
  clear F0
  refine opL 3 10 (v := .bool true) (w' := we) (by kernel_rfl) (by rw [hs]; decide) ?z207 ?z208
  case z207 => (intro o ho; obtain rfl := Option.some.inj ho; exact ⟨rfl, k_assign rfl (ev_tmp h77)⟩)
  case z208 =>
  intro a F0
  replace hs := F0.z.trans hs
  replace hd := F0.e.trans hd
  replace h11 := (F0.n 11 (by decide)).trans h11
  replace h71 := (F0.n 71 (by decide)).trans h71
  clear h77
  have h10 := F0.s
  clear F0
  refine wp_ret ?_
  exact hfin a _ hd h10 (m4.trans ((n9.trans (le.mono n9.size)).mono m4.size))

set_option maxRecDepth 100000 in
set_option maxHeartbeats 1000000 in
theorem ruleFewer_alone (F I E C U : Int) (AM AD AW AP : Option Addr) (cM cD cW cP : Nat) (lm ld : List Int) (lw : List (Int × Int)) (lp : List Int) (na nb nc nd : Int) (w : World) (hM : Months w) (hX : XIn0 w F I E C U AM AD AW AP lm ld lw lp) (hna : 0 ≤ na ∧ na ≤ 255) (hnb : 0 ≤ nb ∧ nb ≤ 255) (hnc : 0 ≤ nc ∧ nc ≤ 255) (hnd : 0 ≤ nd ∧ nd ≤ 255) (hlt : light lm ld lw lp = true) (gpos : decide ((0 : Int) < (((List.take (cutN nd (Mk.P F lm ld lw lp).length) (Mk.P F lm ld lw lp)).length : Nat) : Int)) = true) (gli : some3 (List.drop (cutN na (Mk.mon lm).length) (Mk.mon lm)) (List.take (cutN nb (Mk.D F ld).length) (Mk.D F ld)) (List.drop (cutN nc ((Mk.W F lw).map (·.1)).length) ((Mk.W F lw).map (·.1))) = false) :
    Calls Tryd.prog 4 #[.agg #[.int .u8 F, .int .u8 I, .int .u8 E, .int .u16 C, .int .u32 U, .slice AM lm.length cM, .slice AD ld.length cD, .slice AW lw.length cW, .slice AP lp.length cP], .int .u8 na, .int .u8 nb, .int .u8 nc, .int .u8 nd] w fun e w' => e = .returned (.bool true) ∧ Below w.heap.size w w' := by
  have ll : lm.length ≤ 20 ∧ ld.length ≤ 20 ∧ lw.length ≤ 20 ∧ lp.length ≤ 20 := by simpa [light] using hlt
  obtain ⟨k1, k2, k3, k4, k5, k6, k7, k8, k9, k10, k11, k12, k13, k14⟩ := make_ok (hX.full hlt) (by omega) (by omega) (by omega) (by omega)
  have ck : Rul.check (F.tmod 4) (Mk.iv I) (Mk.cnt E C) (Mk.unt E U) (List.drop (cutN na (Mk.mon lm).length) (Mk.mon lm)) (List.take (cutN nb (Mk.D F ld).length) (Mk.D F ld)) (List.drop (cutN nc ((Mk.W F lw).map (·.1)).length) ((Mk.W F lw).map (·.1))) (List.take (cutN nd (Mk.P F lm ld lw lp).length) (Mk.P F lm ld lw lp)) = 6 := by
    rw [fewer_check _ _ _ _ k1 k2 k3 k4 k5 k6 k7 k8 k9 k10 k12 k13]
    have gp : decide (0 < (List.take (cutN nd (Mk.P F lm ld lw lp).length) (Mk.P F lm ld lw lp)).length) = true := by simpa using gpos
    rw [gp, gli]
    rfl
  have lM : (Mk.mon lm).length ≤ 1000 := by omega
  have lD : (Mk.D F ld).length ≤ 1000 := by omega
  have lW : ((Mk.W F lw).map (·.1)).length ≤ 1000 := by omega
  have lP : (Mk.P F lm ld lw lp).length ≤ 1000 := by omega
  clear k1 k2 k3 k4 k5 k6 k7 k8 k9 k10 k11 k12 k13 k14
  refine calls_of_wp Tryd.func4 (show Tryd.f4.body = some ruleFewerBody from rfl) ?_
  generalize hA : (Act.mk (#[.agg #[.int .u8 F, .int .u8 I, .int .u8 E, .int .u16 C, .int .u32 U, .slice AM lm.length cM, .slice AD ld.length cD, .slice AW lw.length cW, .slice AP lp.length cP], .int .u8 na, .int .u8 nb, .int .u8 nc, .int .u8 nd] ++ Array.replicate (Tryd.f4.ntmps - (#[.agg #[.int .u8 F, .int .u8 I, .int .u8 E, .int .u16 C, .int .u32 U, .slice AM lm.length cM, .slice AD ld.length cD, .slice AW lw.length cW, .slice AP lp.length cP], .int .u8 na, .int .u8 nb, .int .u8 nc, .int .u8 nd] : Array Value).size) undef) []) = a
  have hs : a.tmps.size = 78 := by rw [← hA]; simp [Tryd.ntmps4]
  have hd : a.defers = [] := by rw [← hA]
  have h0 : a.tmps.getD 0 undef = .agg #[.int .u8 F, .int .u8 I, .int .u8 E, .int .u16 C, .int .u32 U, .slice AM lm.length cM, .slice AD ld.length cD, .slice AW lw.length cW, .slice AP lp.length cP] := by rw [← hA]; simp
  have h1 : a.tmps.getD 1 undef = .int .u8 na := by rw [← hA]; simp
  have h2 : a.tmps.getD 2 undef = .int .u8 nb := by rw [← hA]; simp
  have h3 : a.tmps.getD 3 undef = .int .u8 nc := by rw [← hA]; simp
  have h4 : a.tmps.getD 4 undef = .int .u8 nd := by rw [← hA]; simp
  clear hA
  refine Code.wp_mono NoPanic.imp ?_
  have hQ : Blind (NoPanic (bodyPost Tryd.prog Tryd.f4 fun e w' => e = .returned (.bool true) ∧ Below w.heap.size w w')) := fun _ _ _ _ q => q.elim
  have hfin : ∀ (a' : Act) (w' : World), a'.defers = [] → a'.tmps.getD 10 undef = .bool true → Below w.heap.size w w' → NoPanic (bodyPost Tryd.prog Tryd.f4 fun e w' => e = .returned (.bool true) ∧ Below w.heap.size w w') .ret a' w' := by
    intro a' w' k1 k2 k3
    exact ⟨k1, _, results_tmp rfl _ _ _, by rw [k2], k3⟩
  generalize NoPanic (bodyPost Tryd.prog Tryd.f4 fun e w' => e = .returned (.bool true) ∧ Below w.heap.size w w') = Q at hQ hfin
  unfold ruleFewerBody
  conv => arg 2; whnf
  refine wp_seq ?_
  refine wp_region (show wpOps _ _ _ [0, 1] _ _ from ?_)
  refine opL 0 5 (v := .pointer (some ⟨w.heap.size, 0, none⟩)) (w' := (w.alloc (.cells #[.int .u8 F, .int .u8 I, .int .u8 E, .int .u16 C, .int .u32 U, .slice AM lm.length cM, .slice AD ld.length cD, .slice AW lw.length cW, .slice AP lp.length cP] 31))) (by kernel_rfl) (by rw [hs]; decide) ?z209 ?z210
  case z209 => (intro o ho; obtain rfl := Option.some.inj ho; exact ⟨rfl, k_box9 rfl (ev_tmp h0)⟩)
  case z210 =>
  intro a F0
  replace hs := F0.z.trans hs
  replace hd := F0.e.trans hd
  clear h0
  replace h1 := (F0.n 1 (by decide)).trans h1
  replace h2 := (F0.n 2 (by decide)).trans h2
  replace h3 := (F0.n 3 (by decide)).trans h3
  replace h4 := (F0.n 4 (by decide)).trans h4
  have h5 := F0.s
  clear F0
  obtain ⟨w1, hw1⟩ : ∃ wn, wn = w.alloc (.cells #[.int .u8 F, .int .u8 I, .int .u8 E, .int .u16 C, .int .u32 U, .slice AM lm.length cM, .slice AD ld.length cD, .slice AW lw.length cW, .slice AP lp.length cP] 31) := ⟨_, rfl⟩
  rw [← hw1]
  have q1 : Blk w1 w.heap.size 31 #[.int .u8 F, .int .u8 I, .int .u8 E, .int .u16 C, .int .u32 U, .slice AM lm.length cM, .slice AD ld.length cD, .slice AW lw.length cW, .slice AP lp.length cP] := by rw [hw1]; exact Blk.alloc _ _ _
  have l1 : Below w.heap.size w w1 := by rw [hw1]; exact (Below.refl _ _).alloc (Nat.le_refl _) _
  clear hw1
  refine opL 1 10 (v := .bool false) (w' := w1) (by kernel_rfl) (by rw [hs]; decide) ?z211 ?z212
  case z211 => (intro o ho; obtain rfl := Option.some.inj ho; exact ⟨rfl, k_assign rfl rfl⟩)
  case z212 =>
  intro a F0
  replace hs := F0.z.trans hs
  replace hd := F0.e.trans hd
  replace h1 := (F0.n 1 (by decide)).trans h1
  replace h2 := (F0.n 2 (by decide)).trans h2
  replace h3 := (F0.n 3 (by decide)).trans h3
  replace h4 := (F0.n 4 (by decide)).trans h4
  replace h5 := (F0.n 5 (by decide)).trans h5
  have h10 := F0.s
  clear F0
  refine wp_seq ?_
  refine wp_seq ?_
  refine wp_region (show wpOps _ _ _ [0, 1] _ _ from ?_)
  refine opL_call 0 12 (f := 5) (args := #[]) (R := fun v w' => v = .bool true ∧ Below w1.heap.size w1 w') (by kernel_rfl) (by rw [hs]; decide) ?z213 (awake2' w1 (hM.grown l1)) ?z214
  case z213 => (intro o ho; obtain rfl := Option.some.inj ho; exact ⟨rfl, k_callAwake rfl rfl⟩)
  case z214 =>
  rintro _ w2 a ⟨rfl, l2⟩ F0
  replace hs := F0.z.trans hs
  replace hd := F0.e.trans hd
  replace h1 := (F0.n 1 (by decide)).trans h1
  replace h2 := (F0.n 2 (by decide)).trans h2
  replace h3 := (F0.n 3 (by decide)).trans h3
  replace h4 := (F0.n 4 (by decide)).trans h4
  replace h5 := (F0.n 5 (by decide)).trans h5
  replace h10 := (F0.n 10 (by decide)).trans h10
  have h12 := F0.s
  clear F0
  replace q1 := q1.below l2 q1.lt
  have m2 := l1.trans (l2.mono l1.size)
  clear l1 l2
  refine opL 1 13 (v := .bool false) (w' := w2) (by kernel_rfl) (by rw [hs]; decide) ?z215 ?z216
  case z215 => (intro o ho; obtain rfl := Option.some.inj ho; exact ⟨rfl, o_not rfl (ev_tmp h12) rfl⟩)
  case z216 =>
  intro a F0
  replace hs := F0.z.trans hs
  replace hd := F0.e.trans hd
  replace h1 := (F0.n 1 (by decide)).trans h1
  replace h2 := (F0.n 2 (by decide)).trans h2
  replace h3 := (F0.n 3 (by decide)).trans h3
  replace h4 := (F0.n 4 (by decide)).trans h4
  replace h5 := (F0.n 5 (by decide)).trans h5
  replace h10 := (F0.n 10 (by decide)).trans h10
  clear h12
  have h13 := F0.s
  clear F0
  refine wp_cond_false (ev_tmp h13) ?_
  refine wp_skip ?_
  refine wp_seq ?_
  refine wp_seq ?_
  refine wp_region (show wpOps _ _ _ [0, 1, 2] _ _ from ?_)
  refine opL 0 14 (v := .agg #[.int .u8 F, .int .u8 I, .int .u8 E, .int .u16 C, .int .u32 U, .slice AM lm.length cM, .slice AD ld.length cD, .slice AW lw.length cW, .slice AP lp.length cP]) (w' := w2) (by kernel_rfl) (by rw [hs]; decide) ?z217 ?z218
  case z217 => (intro o ho; obtain rfl := Option.some.inj ho; exact ⟨rfl, k_load9 rfl (ev_tmp h5) q1⟩)
  case z218 =>
  intro a F0
  replace hs := F0.z.trans hs
  replace hd := F0.e.trans hd
  replace h1 := (F0.n 1 (by decide)).trans h1
  replace h2 := (F0.n 2 (by decide)).trans h2
  replace h3 := (F0.n 3 (by decide)).trans h3
  replace h4 := (F0.n 4 (by decide)).trans h4
  replace h5 := (F0.n 5 (by decide)).trans h5
  replace h10 := (F0.n 10 (by decide)).trans h10
  replace h13 := (F0.n 13 (by decide)).trans h13
  have h14 := F0.s
  clear F0
  refine opL_call 1 15 (f := 6) (args := #[.agg #[.int .u8 F, .int .u8 I, .int .u8 E, .int .u16 C, .int .u32 U, .slice AM lm.length cM, .slice AD ld.length cD, .slice AW lw.length cW, .slice AP lp.length cP]]) (R := fun v w' => v = .bool (light lm ld lw lp) ∧ Below w2.heap.size w2 w') (by kernel_rfl) (by rw [hs]; decide) ?z219 (light_any _ _ _ _ _ AM AD AW AP cM cD cW cP lm ld lw lp w2 hX.lm1 hX.ld1 hX.lw1 hX.lp1) ?z220
  case z219 => (intro o ho; obtain rfl := Option.some.inj ho; exact ⟨rfl, c_Light rfl rfl (ev_tmp h14)⟩)
  case z220 =>
  rintro _ w3 a ⟨rfl, l3⟩ F0
  rw [hlt] at F0
  replace hs := F0.z.trans hs
  replace hd := F0.e.trans hd
  replace h1 := (F0.n 1 (by decide)).trans h1
  replace h2 := (F0.n 2 (by decide)).trans h2
  replace h3 := (F0.n 3 (by decide)).trans h3
  replace h4 := (F0.n 4 (by decide)).trans h4
  replace h5 := (F0.n 5 (by decide)).trans h5
  replace h10 := (F0.n 10 (by decide)).trans h10
  replace h13 := (F0.n 13 (by decide)).trans h13
  clear h14
  have h15 := F0.s
  clear F0
  replace q1 := q1.below l3 q1.lt
  have m3 := m2.trans (l3.mono m2.size)
  clear m2 l3
  refine opL 2 16 (v := .bool false) (w' := w3) (by kernel_rfl) (by rw [hs]; decide) ?z221 ?z222
  case z221 => (intro o ho; obtain rfl := Option.some.inj ho; exact ⟨rfl, o_not rfl (ev_tmp h15) rfl⟩)
  case z222 =>
  intro a F0
  replace hs := F0.z.trans hs
  replace hd := F0.e.trans hd
  replace h1 := (F0.n 1 (by decide)).trans h1
  replace h2 := (F0.n 2 (by decide)).trans h2
  replace h3 := (F0.n 3 (by decide)).trans h3
  replace h4 := (F0.n 4 (by decide)).trans h4
  replace h5 := (F0.n 5 (by decide)).trans h5
  replace h10 := (F0.n 10 (by decide)).trans h10
  replace h13 := (F0.n 13 (by decide)).trans h13
  clear h15
  have h16 := F0.s
  clear F0
  refine wp_cond_false (ev_tmp h16) ?_
  refine wp_skip ?_
  refine wp_seq ?_
  refine wp_region (show wpOps _ _ _ [0, 1, 2, 3] _ _ from ?_)
  refine opL 0 17 (v := .agg #[.int .u8 F, .int .u8 I, .int .u8 E, .int .u16 C, .int .u32 U, .slice AM lm.length cM, .slice AD ld.length cD, .slice AW lw.length cW, .slice AP lp.length cP]) (w' := w3) (by kernel_rfl) (by rw [hs]; decide) ?z223 ?z224
  case z223 => (intro o ho; obtain rfl := Option.some.inj ho; exact ⟨rfl, k_load9 rfl (ev_tmp h5) q1⟩)
  case z224 =>
  intro a F0
  replace hs := F0.z.trans hs
  replace hd := F0.e.trans hd
  replace h1 := (F0.n 1 (by decide)).trans h1
  replace h2 := (F0.n 2 (by decide)).trans h2
  replace h3 := (F0.n 3 (by decide)).trans h3
  replace h4 := (F0.n 4 (by decide)).trans h4
  replace h5 := (F0.n 5 (by decide)).trans h5
  replace h10 := (F0.n 10 (by decide)).trans h10
  replace h13 := (F0.n 13 (by decide)).trans h13
  replace h16 := (F0.n 16 (by decide)).trans h16
  have h17 := F0.s
  clear F0
  have hc := make_any' F I E C U AM AD AW AP cM cD cW cP lm ld lw lp w3 ((hX.below m3).full hlt)
  have hx := fun ops Q rest d a i h1 h2 h3 => opL_call (P := Tryd.prog) (ops := ops) (Q := Q) (a := a) (w := w3) (rest := rest) i d h1 h2 h3 hc
  refine hx _ _ _ 18 _ 1 ?z225a ?z225b ?z225 ?z226
  case z225a => kernel_rfl
  case z225b => (rw [hs]; decide)
  case z225 => (intro o ho; obtain rfl := Option.some.inj ho; exact ⟨rfl, c_Make rfl rfl (ev_tmp h17)⟩)
  case z226 =>
  rintro _ w4 a ⟨A1, A2, A3, A4, c1, c2, c3, c4, tD, tW, tP, rfl, F4, l4⟩ F0
  replace hs := F0.z.trans hs
  replace hd := F0.e.trans hd
  replace h1 := (F0.n 1 (by decide)).trans h1
  replace h2 := (F0.n 2 (by decide)).trans h2
  replace h3 := (F0.n 3 (by decide)).trans h3
  replace h4 := (F0.n 4 (by decide)).trans h4
  replace h5 := (F0.n 5 (by decide)).trans h5
  replace h10 := (F0.n 10 (by decide)).trans h10
  replace h13 := (F0.n 13 (by decide)).trans h13
  replace h16 := (F0.n 16 (by decide)).trans h16
  clear h17
  have h18 := F0.s
  clear F0
  clear hx hc
  have m4 := m3.trans (l4.mono m3.size)
  clear m3
  refine opL 2 11 (v := .pointer (some ⟨w4.heap.size, 0, none⟩)) (w' := (w4.alloc (.cells #[.int .i64 0, .int .i64 0, .int .i64 0, .int .i64 0, .slice none 0 0, .slice none 0 0, .slice none 0 0, .slice none 0 0] 39))) (by kernel_rfl) (by rw [hs]; decide) ?z227 ?z228
  case z227 => (intro o ho; obtain rfl := Option.some.inj ho; exact ⟨rfl, k_allocR rfl⟩)
  case z228 =>
  intro a F0
  replace hs := F0.z.trans hs
  replace hd := F0.e.trans hd
  replace h1 := (F0.n 1 (by decide)).trans h1
  replace h2 := (F0.n 2 (by decide)).trans h2
  replace h3 := (F0.n 3 (by decide)).trans h3
  replace h4 := (F0.n 4 (by decide)).trans h4
  replace h5 := (F0.n 5 (by decide)).trans h5
  replace h10 := (F0.n 10 (by decide)).trans h10
  replace h13 := (F0.n 13 (by decide)).trans h13
  replace h16 := (F0.n 16 (by decide)).trans h16
  replace h18 := (F0.n 18 (by decide)).trans h18
  have h11 := F0.s
  clear F0
  obtain ⟨w5, hw5⟩ : ∃ wn, wn = w4.alloc (.cells #[.int .i64 0, .int .i64 0, .int .i64 0, .int .i64 0, .slice none 0 0, .slice none 0 0, .slice none 0 0, .slice none 0 0] 39) := ⟨_, rfl⟩
  rw [← hw5]
  have q5 : Blk w5 w4.heap.size 39 #[.int .i64 0, .int .i64 0, .int .i64 0, .int .i64 0, .slice none 0 0, .slice none 0 0, .slice none 0 0, .slice none 0 0] := by rw [hw5]; exact Blk.alloc _ _ _
  have l5 : Below w4.heap.size w4 w5 := by rw [hw5]; exact (Below.refl _ _).alloc (Nat.le_refl _) _
  clear hw5
  refine opL_store 3 (w' := (w5.setRow w4.heap.size #[.int .i64 (F.tmod 4), .int .i64 (Mk.iv I), .int .i64 (Mk.cnt E C), .int .i64 (Mk.unt E U), .slice A1 (Mk.mon lm).length c1, .slice A2 (Mk.D F ld).length c2, .slice A3 ((Mk.W F lw).map (·.1)).length c3, .slice A4 (Mk.P F lm ld lw lp).length c4])) (by kernel_rfl) ?z229 ?z230
  case z229 => (intro o ho; obtain rfl := Option.some.inj ho; exact ⟨rfl, k_storeR rfl (ev_tmp h11) (ev_tmp h18) q5 rfl rfl (by simp [Value.oneCell'])⟩)
  case z230 =>
  obtain ⟨w6, hw6⟩ : ∃ wn, wn = w5.setRow w4.heap.size #[.int .i64 (F.tmod 4), .int .i64 (Mk.iv I), .int .i64 (Mk.cnt E C), .int .i64 (Mk.unt E U), .slice A1 (Mk.mon lm).length c1, .slice A2 (Mk.D F ld).length c2, .slice A3 ((Mk.W F lw).map (·.1)).length c3, .slice A4 (Mk.P F lm ld lw lp).length c4] := ⟨_, rfl⟩
  rw [← hw6]
  have B6 : Blk w6 w4.heap.size 39 #[.int .i64 (F.tmod 4), .int .i64 (Mk.iv I), .int .i64 (Mk.cnt E C), .int .i64 (Mk.unt E U), .slice A1 (Mk.mon lm).length c1, .slice A2 (Mk.D F ld).length c2, .slice A3 ((Mk.W F lw).map (·.1)).length c3, .slice A4 (Mk.P F lm ld lw lp).length c4] := by rw [hw6]; exact q5.setRow
  have l6 : Below w4.heap.size w4 w6 := by rw [hw6]; exact l5.trans ((exc_setRow w5 w4.heap.size #[.int .i64 (F.tmod 4), .int .i64 (Mk.iv I), .int .i64 (Mk.cnt E C), .int .i64 (Mk.unt E U), .slice A1 (Mk.mon lm).length c1, .slice A2 (Mk.D F ld).length c2, .slice A3 ((Mk.W F lw).map (·.1)).length c3, .slice A4 (Mk.P F lm ld lw lp).length c4] w4.heap.size).below (Nat.le_refl _))
  clear hw6 q5 l5
  have L4 := F4.lists
  refine wp_seq ?_
  have hx := fun Q hQ => regFew6 a w6 w4 w4 Q hQ _ _ _ _ _ _ _ _ _ _ _ _ _ _ _ _ _ _ _ _ hd hs h1 h2 h3 h4 h11 B6 F4.oM F4.oD hna hnb lM lD
  refine hx _ ?hb6 ?hr6
  case hb6 => (repeat (first | exact hQ | refine blind_then ?_ | refine blind_block ?_))
  case hr6 =>
  clear hx
  intro a w7 z' e' k1' k2' k3' B7 e7
  replace hs := z'
  replace hd := e'
  clear h1
  clear h2
  clear h5
  clear h10
  clear h13
  clear h16
  clear h18
  replace h3 := k1'
  replace h4 := k2'
  replace h11 := k3'
  refine wp_seq ?_
  have hx := fun Q hQ => regFew7 a w7 w4 w4 Q hQ _ _ _ _ _ _ _ _ _ _ _ _ _ _ _ _ _ _ hd hs h3 h4 h11 B7 F4.oW F4.oP hnc hnd lW lP
  refine hx _ ?hb7 ?hr7
  case hb7 => (repeat (first | exact hQ | refine blind_then ?_ | refine blind_block ?_))
  case hr7 =>
  clear hx
  intro a w8 z' e'  k3' B8 e8
  replace hs := z'
  replace hd := e'
  clear h3
  clear h4
  replace h11 := k3'
  have n8 := l6.trans (((e7 w4.heap.size).trans (e8 w4.heap.size)).below (Nat.le_refl _))
  have F8 := F4.below n8
  have L8 : ListsIn w8 (cutA A1 c1 (cutN na (Mk.mon lm).length) 1) A2 (cutA A3 c3 (cutN nc ((Mk.W F lw).map (·.1)).length) 2) A4 (List.drop (cutN na (Mk.mon lm).length) (Mk.mon lm)) (List.take (cutN nb (Mk.D F ld).length) (Mk.D F ld)) (List.drop (cutN nc ((Mk.W F lw).map (·.1)).length) ((Mk.W F lw).map (·.1))) (List.take (cutN nd (Mk.P F lm ld lw lp).length) (Mk.P F lm ld lw lp)) := ⟨F8.oM.dropIn, F8.lists.d.take _, F8.oW.dropIn, F8.lists.p.take _, Nat.le_trans (by rw [List.length_drop]; omega) L4.lm, Nat.le_trans (by rw [List.length_take]; omega) L4.ld, Nat.le_trans (by rw [List.length_drop]; omega) L4.lk, Nat.le_trans (by rw [List.length_take]; omega) L4.lp⟩
  refine wp_seq ?_
  refine wp_seq ?_
  refine wp_region (show wpOps _ _ _ [0, 1, 2, 3, 4, 5, 6, 7, 8] _ _ from ?_)
  refine opL 0 63 (v := .pointer (some ⟨w4.heap.size, 7, none⟩)) (w' := w8) (by kernel_rfl) (by rw [hs]; decide) ?z231 ?z232
  case z231 => (intro o ho; obtain rfl := Option.some.inj ho; exact ⟨rfl, k_field7 rfl (ev_tmp h11)⟩)
  case z232 =>
  intro a F0
  replace hs := F0.z.trans hs
  replace hd := F0.e.trans hd
  replace h11 := (F0.n 11 (by decide)).trans h11
  have h63 := F0.s
  clear F0
  refine opL 1 64 (v := .slice A4 (List.take (cutN nd (Mk.P F lm ld lw lp).length) (Mk.P F lm ld lw lp)).length c4) (w' := w8) (by kernel_rfl) (by rw [hs]; decide) ?z233 ?z234
  case z233 => (intro o ho; obtain rfl := Option.some.inj ho; exact ⟨rfl, k_loadL rfl (ev_tmp h63) (B8.cell 7)⟩)
  case z234 =>
  intro a F0
  replace hs := F0.z.trans hs
  replace hd := F0.e.trans hd
  replace h11 := (F0.n 11 (by decide)).trans h11
  clear h63
  have h64 := F0.s
  clear F0
  refine opL 2 65 (v := .int .i64 (List.take (cutN nd (Mk.P F lm ld lw lp).length) (Mk.P F lm ld lw lp)).length) (w' := w8) (by kernel_rfl) (by rw [hs]; decide) ?z235 ?z236
  case z235 => (intro o ho; obtain rfl := Option.some.inj ho; exact ⟨rfl, k_lenL rfl (ev_tmp h64)⟩)
  case z236 =>
  intro a F0
  replace hs := F0.z.trans hs
  replace hd := F0.e.trans hd
  replace h11 := (F0.n 11 (by decide)).trans h11
  clear h64
  have h65 := F0.s
  clear F0
  refine opL 3 66 (v := .bool true) (w' := w8) (by kernel_rfl) (by rw [hs]; decide) ?z237 ?z238
  case z237 => (intro o ho; obtain rfl := Option.some.inj ho; exact ⟨rfl, o_gtI rfl (ev_tmp h65) rfl gpos⟩)
  case z238 =>
  intro a F0
  replace hs := F0.z.trans hs
  replace hd := F0.e.trans hd
  replace h11 := (F0.n 11 (by decide)).trans h11
  clear h65
  have h66 := F0.s
  clear F0
  refine opL 4 67 (v := .bool true) (w' := w8) (by kernel_rfl) (by rw [hs]; decide) ?z239 ?z240
  case z239 => (intro o ho; obtain rfl := Option.some.inj ho; exact ⟨rfl, k_move rfl (ev_tmp h66)⟩)
  case z240 =>
  intro a F0
  replace hs := F0.z.trans hs
  replace hd := F0.e.trans hd
  replace h11 := (F0.n 11 (by decide)).trans h11
  clear h66
  have h67 := F0.s
  clear F0
  refine opL 5 68 (v := .agg #[.int .i64 (F.tmod 4), .int .i64 (Mk.iv I), .int .i64 (Mk.cnt E C), .int .i64 (Mk.unt E U), .slice (cutA A1 c1 (cutN na (Mk.mon lm).length) 1) (List.drop (cutN na (Mk.mon lm).length) (Mk.mon lm)).length (c1 - cutN na (Mk.mon lm).length), .slice A2 (List.take (cutN nb (Mk.D F ld).length) (Mk.D F ld)).length c2, .slice (cutA A3 c3 (cutN nc ((Mk.W F lw).map (·.1)).length) 2) (List.drop (cutN nc ((Mk.W F lw).map (·.1)).length) ((Mk.W F lw).map (·.1))).length (c3 - cutN nc ((Mk.W F lw).map (·.1)).length), .slice A4 (List.take (cutN nd (Mk.P F lm ld lw lp).length) (Mk.P F lm ld lw lp)).length c4]) (w' := w8) (by kernel_rfl) (by rw [hs]; decide) ?z241 ?z242
  case z241 => (intro o ho; obtain rfl := Option.some.inj ho; exact ⟨wanted_at (b := true) (want := true) rfl (by kernel_rfl) h67, k_loadR rfl (ev_tmp h11) B8.rule⟩)
  case z242 =>
  intro a F0
  replace hs := F0.z.trans hs
  replace hd := F0.e.trans hd
  replace h11 := (F0.n 11 (by decide)).trans h11
  replace h67 := (F0.n 67 (by decide)).trans h67
  have h68 := F0.s
  clear F0
  have hc := lists_any' (F.tmod 4) (Mk.iv I) (Mk.cnt E C) (Mk.unt E U) (cutA A1 c1 (cutN na (Mk.mon lm).length) 1) A2 (cutA A3 c3 (cutN nc ((Mk.W F lw).map (·.1)).length) 2) A4 (c1 - cutN na (Mk.mon lm).length) c2 (c3 - cutN nc ((Mk.W F lw).map (·.1)).length) c4 (List.drop (cutN na (Mk.mon lm).length) (Mk.mon lm)) (List.take (cutN nb (Mk.D F ld).length) (Mk.D F ld)) (List.drop (cutN nc ((Mk.W F lw).map (·.1)).length) ((Mk.W F lw).map (·.1))) (List.take (cutN nd (Mk.P F lm ld lw lp).length) (Mk.P F lm ld lw lp)) w8
  have hx := fun ops Q rest d a i h1 h2 h3 => opL_call (P := Tryd.prog) (ops := ops) (Q := Q) (a := a) (w := w8) (rest := rest) i d h1 h2 h3 hc
  refine hx _ _ _ 69 _ 6 ?z243a ?z243b ?z243 ?z244
  case z243a => kernel_rfl
  case z243b => (rw [hs]; decide)
  case z243 => (intro o ho; obtain rfl := Option.some.inj ho; exact ⟨wanted_at (b := true) (want := true) rfl (by kernel_rfl) h67, c_Lists rfl rfl (ev_tmp h68)⟩)
  case z244 =>
  rintro _ w9 a ⟨rfl, l9⟩ F0
  rw [gli] at F0
  replace hs := F0.z.trans hs
  replace hd := F0.e.trans hd
  replace h11 := (F0.n 11 (by decide)).trans h11
  replace h67 := (F0.n 67 (by decide)).trans h67
  clear h68
  have h69 := F0.s
  clear F0
  clear hx hc
  have B9 := B8.below l9 B8.lt
  have n9 := n8.trans (l9.mono n8.size)
  have L9 := L8.below l9
  refine opL 7 70 (v := .bool true) (w' := w9) (by kernel_rfl) (by rw [hs]; decide) ?z245 ?z246
  case z245 => (intro o ho; obtain rfl := Option.some.inj ho; exact ⟨wanted_at (b := true) (want := true) rfl (by kernel_rfl) h67, o_not rfl (ev_tmp h69) rfl⟩)
  case z246 =>
  intro a F0
  replace hs := F0.z.trans hs
  replace hd := F0.e.trans hd
  replace h11 := (F0.n 11 (by decide)).trans h11
  replace h67 := (F0.n 67 (by decide)).trans h67
  clear h69
  have h70 := F0.s
  clear F0
  refine opL 8 71 (v := .bool true) (w' := w9) (by kernel_rfl) (by rw [hs]; decide) ?z247 ?z248
  case z247 => (intro o ho; obtain rfl := Option.some.inj ho; exact ⟨rfl, k_pick_yes rfl (ev_tmp h67) (ev_tmp h70)⟩)
  case z248 =>
  intro a F0
  replace hs := F0.z.trans hs
  replace hd := F0.e.trans hd
  replace h11 := (F0.n 11 (by decide)).trans h11
  clear h67
  clear h70
  have h71 := F0.s
  clear F0
  refine wp_cond_true (ev_tmp h71) ?_
  refine wp_seq ?_
  refine wp_region (show wpOps _ _ _ [0, 1, 2, 3] _ _ from ?_)
  refine opL 0 72 (v := .agg #[.int .i64 (F.tmod 4), .int .i64 (Mk.iv I), .int .i64 (Mk.cnt E C), .int .i64 (Mk.unt E U), .slice (cutA A1 c1 (cutN na (Mk.mon lm).length) 1) (List.drop (cutN na (Mk.mon lm).length) (Mk.mon lm)).length (c1 - cutN na (Mk.mon lm).length), .slice A2 (List.take (cutN nb (Mk.D F ld).length) (Mk.D F ld)).length c2, .slice (cutA A3 c3 (cutN nc ((Mk.W F lw).map (·.1)).length) 2) (List.drop (cutN nc ((Mk.W F lw).map (·.1)).length) ((Mk.W F lw).map (·.1))).length (c3 - cutN nc ((Mk.W F lw).map (·.1)).length), .slice A4 (List.take (cutN nd (Mk.P F lm ld lw lp).length) (Mk.P F lm ld lw lp)).length c4]) (w' := w9) (by kernel_rfl) (by rw [hs]; decide) ?z249 ?z250
  case z249 => (intro o ho; obtain rfl := Option.some.inj ho; exact ⟨rfl, k_loadR rfl (ev_tmp h11) B9.rule⟩)
  case z250 =>
  intro a F0
  replace hs := F0.z.trans hs
  replace hd := F0.e.trans hd
  replace h11 := (F0.n 11 (by decide)).trans h11
  replace h71 := (F0.n 71 (by decide)).trans h71
  have h72 := F0.s
  clear F0
  have hc := check_any' (F.tmod 4) (Mk.iv I) (Mk.cnt E C) (Mk.unt E U) (cutA A1 c1 (cutN na (Mk.mon lm).length) 1) A2 (cutA A3 c3 (cutN nc ((Mk.W F lw).map (·.1)).length) 2) A4 (c1 - cutN na (Mk.mon lm).length) c2 (c3 - cutN nc ((Mk.W F lw).map (·.1)).length) c4 (List.drop (cutN na (Mk.mon lm).length) (Mk.mon lm)) (List.take (cutN nb (Mk.D F ld).length) (Mk.D F ld)) (List.drop (cutN nc ((Mk.W F lw).map (·.1)).length) ((Mk.W F lw).map (·.1))) (List.take (cutN nd (Mk.P F lm ld lw lp).length) (Mk.P F lm ld lw lp)) w9 L9
  have hx := fun ops Q rest d a i h1 h2 h3 => opL_call (P := Tryd.prog) (ops := ops) (Q := Q) (a := a) (w := w9) (rest := rest) i d h1 h2 h3 hc
  refine hx _ _ _ 73 _ 1 ?z251a ?z251b ?z251 ?z252
  case z251a => kernel_rfl
  case z251b => (rw [hs]; decide)
  case z251 => (intro o ho; obtain rfl := Option.some.inj ho; exact ⟨rfl, k_callCheck rfl rfl (ev_tmp h72)⟩)
  case z252 =>
  rintro _ we a ⟨rfl, le⟩ F0
  rw [ck] at F0
  replace hs := F0.z.trans hs
  replace hd := F0.e.trans hd
  replace h11 := (F0.n 11 (by decide)).trans h11
  replace h71 := (F0.n 71 (by decide)).trans h71
  clear h72
  have h73 := F0.s
  clear F0
  clear hx hc
  refine opL 2 74 (v := .bool true) (w' := we) (by kernel_rfl) (by rw [hs]; decide) ?z253 ?z254
  case z253 => (intro o ho; obtain rfl := Option.some.inj ho; exact ⟨rfl, o_eqE rfl (ev_tmp h73) rfl (by decide)⟩)
  case z254 =>
  intro a F0
  replace hs := F0.z.trans hs
  replace hd := F0.e.trans hd
  replace h11 := (F0.n 11 (by decide)).trans h11
  replace h71 := (F0.n 71 (by decide)).trans h71
  clear h73
  have h74 := F0.s
  clear F0
  refine opL 3 10 (v := .bool true) (w' := we) (by kernel_rfl) (by rw [hs]; decide) ?z255 ?z256
  case z255 => (intro o ho; obtain rfl := Option.some.inj ho; exact ⟨rfl, k_assign rfl (ev_tmp h74)⟩)
  case z256 =>
  intro a F0
  replace hs := F0.z.trans hs
  replace hd := F0.e.trans hd
  replace h11 := (F0.n 11 (by decide)).trans h11
  replace h71 := (F0.n 71 (by decide)).trans h71
  clear h74
  have h10 := F0.s
  clear F0
  refine wp_ret ?_
  exact hfin a _ hd h10 (m4.trans ((n9.trans (le.mono n9.size)).mono m4.size))

theorem ruleFewer_walk (F I E C U : Int) (AM AD AW AP : Option Addr) (cM cD cW cP : Nat) (lm ld : List Int) (lw : List (Int × Int)) (lp : List Int) (na nb nc nd : Int) (w : World) (hM : Months w) (hX : XIn0 w F I E C U AM AD AW AP lm ld lw lp) (hna : 0 ≤ na ∧ na ≤ 255) (hnb : 0 ≤ nb ∧ nb ≤ 255) (hnc : 0 ≤ nc ∧ nc ≤ 255) (hnd : 0 ≤ nd ∧ nd ≤ 255) :
    Calls Tryd.prog 4 #[.agg #[.int .u8 F, .int .u8 I, .int .u8 E, .int .u16 C, .int .u32 U, .slice AM lm.length cM, .slice AD ld.length cD, .slice AW lw.length cW, .slice AP lp.length cP], .int .u8 na, .int .u8 nb, .int .u8 nc, .int .u8 nd] w fun e w' => e = .returned (.bool true) ∧ Below w.heap.size w w' := by
  cases hlt : light lm ld lw lp
  · exact ruleFewer_heavy F I E C U AM AD AW AP cM cD cW cP lm ld lw lp na nb nc nd w hM hX hlt
  · cases gpos : decide ((0 : Int) < (((List.take (cutN nd (Mk.P F lm ld lw lp).length) (Mk.P F lm ld lw lp)).length : Nat) : Int))
    · exact ruleFewer_none F I E C U AM AD AW AP cM cD cW cP lm ld lw lp na nb nc nd w hM hX hna hnb hnc hnd hlt gpos
    · cases gli : some3 (List.drop (cutN na (Mk.mon lm).length) (Mk.mon lm)) (List.take (cutN nb (Mk.D F ld).length) (Mk.D F ld)) (List.drop (cutN nc ((Mk.W F lw).map (·.1)).length) ((Mk.W F lw).map (·.1)))
      · exact ruleFewer_alone F I E C U AM AD AW AP cM cD cW cP lm ld lw lp na nb nc nd w hM hX hna hnb hnc hnd hlt gpos gli
      · exact ruleFewer_some F I E C U AM AD AW AP cM cD cW cP lm ld lw lp na nb nc nd w hM hX hna hnb hnc hnd hlt gpos gli
end Go.Proofs.YtfhhlebadmkckaaDoor
