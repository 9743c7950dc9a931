/-
  The law RuleLong: its loop, which puts elements behind one of the rule's lists.
-/
import Derived.Test.YtoldjleojnlhiaaDoorMemR
import Derived.Test.YtoldjleojnlhiaaDoorKop
import Derived.Test.YtoldjleojnlhiaaDoorR22
import Derived.Test.YtoldjleojnlhiaaDoorLf2
namespace Go.Proofs.YtoldjleojnlhiaaDoor
open Go.RowKit
theorem wq (i : Int) (h1 : 0 ≤ i) (h2 : i ≤ 9223372036854775807) : IntKind.i64.wrap (i.tdiv 7) = i / 7 := by
  rw [Int.tdiv_eq_ediv_of_nonneg h1]
  exact wrap_small (by omega) (by omega)
noncomputable def longRound : Code := (Tryd.f5.body.bind loopOf).getD .skip

theorem pick62 (i : Int) (h0 : 0 ≤ i) (h : i < 62) : ∃ (q : Nat) (x : Int), IntKind.i64.wrap (i.tdiv 31) = (q : Int) ∧ q < 2 ∧ (#[Value.int .i64 (i - 31), .int .i64 (i - 30)] : Array Value)[q]? = some (.int .i64 x) := by
  have e : IntKind.i64.wrap (i.tdiv 31) = i / 31 := by
    rw [Int.tdiv_eq_ediv_of_nonneg h0]
    exact wrap_small (by omega) (by omega)
  by_cases h1 : i < 31
  · exact ⟨0, i - 31, by rw [e]; show i / 31 = 0; omega, by omega, rfl⟩
  · exact ⟨1, i - 30, by rw [e]; show i / 31 = 1; omega, by omega, rfl⟩
noncomputable def ops11 : Array Oper := (Tryd.f5.body.bind (regOf 11)).getD #[]
set_option maxRecDepth 100000 in
set_option maxHeartbeats 1000000 in
theorem reg11 (a : Act) (w : World) (Q : Exit → Act → World → Prop) (hQ : Blind Q) (b m base : Nat) (what N i x : Int) (q : Nat) (A : Option Addr) (cap : Nat) (L : List Int) (hs : a.tmps.size = 64)
    (h1 : a.tmps.getD 1 undef = .int .u8 what) (h5 : a.tmps.getD 5 undef = .pointer (some ⟨b, 0, none⟩)) (h6 : a.tmps.getD 6 undef = .int .i64 i) (h14 : a.tmps.getD 14 undef = .int .i64 N) (h15 : a.tmps.getD 15 undef = .int .i64 i) (hi0 : 0 ≤ i) (h62 : i < 62)
    (hq : IntKind.i64.wrap (i.tdiv 31) = (q : Int)) (hx : q < 2 ∧ (#[Value.int .i64 (i - 31), .int .i64 (i - 30)] : Array Value)[q]? = some (.int .i64 x))
    (hB : Blk w b 38 #[.int .i64 3, .int .i64 1, .int .i64 0, .int .i64 0, .slice (some ⟨m, 0, none⟩) 1 1, .slice A L.length cap, .slice none 0 0, .slice none 0 0]) (hM : Blk w m 3 #[.int .i64 1]) (hO : OwnI w base (.slice A L.length cap) L) (hln : L.length ≤ 1000) (hl : base ≤ w.heap.size) (hb : b < base) (hm : m < base) (hmb : m ≠ b)
    (hR : ∀ (a' : Act) (w3 : World) (A' : Option Addr) (cap' : Nat), a'.tmps.size = a.tmps.size → a'.defers = a.defers → a'.tmps.getD 1 undef = .int .u8 what → a'.tmps.getD 5 undef = .pointer (some ⟨b, 0, none⟩) → a'.tmps.getD 14 undef = .int .i64 N → a'.tmps.getD 15 undef = .int .i64 i →
      Blk w3 b 38 #[.int .i64 3, .int .i64 1, .int .i64 0, .int .i64 0, .slice (some ⟨m, 0, none⟩) 1 1, .slice A' (L ++ [x]).length cap', .slice none 0 0, .slice none 0 0] → Blk w3 m 3 #[.int .i64 1] → OwnI w3 base (.slice A' (L ++ [x]).length cap') (L ++ [x]) → Exc base b w w3 → base ≤ w3.heap.size → Q .normal a' w3) :
    (Code.region 11 ops11 true).wp Tryd.prog Q a w := by
  conv => arg 2; arg 2; whnf
  obtain ⟨hq2, hxq⟩ := hx
  obtain ⟨df, hd⟩ : ∃ df, a.defers = df := ⟨_, rfl⟩
  obtain ⟨sz, hz⟩ : ∃ sz, a.tmps.size = sz := ⟨_, rfl⟩
  rw [hd, hz] at hR
  rw [hz] at hs
  replace hz := hz.trans hs
  subst hs
  have hs := hz
  clear hz
  have dr := below_drew (Below.refl w.heap.size w)
  replace hR : ∀ (a' : Act) (w3 : World) (A' : Option Addr) (cap' : Nat), a'.tmps.size = 64 → a'.defers = df → a'.tmps.getD 1 undef = .int .u8 what → a'.tmps.getD 5 undef = .pointer (some ⟨b, 0, none⟩) → a'.tmps.getD 14 undef = .int .i64 N → a'.tmps.getD 15 undef = .int .i64 i →
      Blk w3 b 38 #[.int .i64 3, .int .i64 1, .int .i64 0, .int .i64 0, .slice (some ⟨m, 0, none⟩) 1 1, .slice A' (L ++ [x]).length cap', .slice none 0 0, .slice none 0 0] → Blk w3 m 3 #[.int .i64 1] → OwnI w3 base (.slice A' (L ++ [x]).length cap') (L ++ [x]) → Exc base b w.drew w3 → base ≤ w3.heap.size → Q .normal a' w3 := fun a' w3 A' cap' c1 c2 c3 c4 c5 c6 c7 c8 c9 c10 c11 => hR a' w3 A' cap' c1 c2 c3 c4 c5 c6 c7 c8 c9 ((Exc.of (dr.mono hl)).trans c10) c11
  refine wp_region_held_drew (S := fun _ => True) (by kernel_rfl) trivial (fun hH => ?_)
  replace hB := hB.below dr hB.lt
  replace hM := hM.below dr hM.lt
  replace hO := hO.exc (Exc.of (b := w.heap.size) dr) (fun g hg => by have := (hO.lt g hg).2; omega)
  replace hl : base ≤ w.drew.heap.size := hl
  clear dr
  generalize w.drew = w at *
  refine heldL 0 31 (v := .pointer (some ⟨b, 5, none⟩)) hQ (by kernel_rfl) (by rw [hs]; decide) (by kernel_rfl) (by kernel_rfl) (by kernel_rfl) hH ?z1 ?z2
  case z1 => (intro o ho; obtain rfl := Option.some.inj ho; exact Or.inl ⟨rfl, fun w1 h1w => k_field5 rfl (ev_tmp h5)⟩)
  case z2 =>
  intro a F0
  replace hs := F0.z.trans hs
  replace hd := F0.e.trans hd
  replace h1 := (F0.n 1 (by decide)).trans h1
  replace h5 := (F0.n 5 (by decide)).trans h5
  replace h6 := (F0.n 6 (by decide)).trans h6
  replace h14 := (F0.n 14 (by decide)).trans h14
  replace h15 := (F0.n 15 (by decide)).trans h15
  have h31 := F0.s
  clear F0
  refine heldL 2 33 (v := .int .i64 i) hQ (by kernel_rfl) (by rw [hs]; decide) (by kernel_rfl) (by kernel_rfl) (by kernel_rfl) hH ?z3 ?z4
  case z3 => (intro o ho; obtain rfl := Option.some.inj ho; exact Or.inl ⟨rfl, fun w1 h1w => k_move rfl (ev_tmp h6)⟩)
  case z4 =>
  intro a F0
  replace hs := F0.z.trans hs
  replace hd := F0.e.trans hd
  replace h1 := (F0.n 1 (by decide)).trans h1
  replace h5 := (F0.n 5 (by decide)).trans h5
  replace h6 := (F0.n 6 (by decide)).trans h6
  replace h14 := (F0.n 14 (by decide)).trans h14
  replace h15 := (F0.n 15 (by decide)).trans h15
  replace h31 := (F0.n 31 (by decide)).trans h31
  have h33 := F0.s
  clear F0
  refine heldL 3 34 (v := .int .i64 (i - 31)) hQ (by kernel_rfl) (by rw [hs]; decide) (by kernel_rfl) (by kernel_rfl) (by kernel_rfl) hH ?z5 ?z6
  case z5 => (intro o ho; obtain rfl := Option.some.inj ho; exact Or.inl ⟨rfl, fun w1 h1w => o_subI rfl (ev_tmp h33) rfl (wrap_small (by omega) (by omega))⟩)
  case z6 =>
  intro a F0
  replace hs := F0.z.trans hs
  replace hd := F0.e.trans hd
  replace h1 := (F0.n 1 (by decide)).trans h1
  replace h5 := (F0.n 5 (by decide)).trans h5
  replace h6 := (F0.n 6 (by decide)).trans h6
  replace h14 := (F0.n 14 (by decide)).trans h14
  replace h15 := (F0.n 15 (by decide)).trans h15
  replace h31 := (F0.n 31 (by decide)).trans h31
  replace h33 := (F0.n 33 (by decide)).trans h33
  have h34 := F0.s
  clear F0
  refine heldL 4 35 (v := .int .i64 i) hQ (by kernel_rfl) (by rw [hs]; decide) (by kernel_rfl) (by kernel_rfl) (by kernel_rfl) hH ?z7 ?z8
  case z7 => (intro o ho; obtain rfl := Option.some.inj ho; exact Or.inl ⟨rfl, fun w1 h1w => k_move rfl (ev_tmp h6)⟩)
  case z8 =>
  intro a F0
  replace hs := F0.z.trans hs
  replace hd := F0.e.trans hd
  replace h1 := (F0.n 1 (by decide)).trans h1
  replace h5 := (F0.n 5 (by decide)).trans h5
  replace h6 := (F0.n 6 (by decide)).trans h6
  replace h14 := (F0.n 14 (by decide)).trans h14
  replace h15 := (F0.n 15 (by decide)).trans h15
  replace h31 := (F0.n 31 (by decide)).trans h31
  replace h33 := (F0.n 33 (by decide)).trans h33
  replace h34 := (F0.n 34 (by decide)).trans h34
  have h35 := F0.s
  clear F0
  refine heldL 5 36 (v := .int .i64 (i - 30)) hQ (by kernel_rfl) (by rw [hs]; decide) (by kernel_rfl) (by kernel_rfl) (by kernel_rfl) hH ?z9 ?z10
  case z9 => (intro o ho; obtain rfl := Option.some.inj ho; exact Or.inl ⟨rfl, fun w1 h1w => o_subI rfl (ev_tmp h35) rfl (wrap_small (by omega) (by omega))⟩)
  case z10 =>
  intro a F0
  replace hs := F0.z.trans hs
  replace hd := F0.e.trans hd
  replace h1 := (F0.n 1 (by decide)).trans h1
  replace h5 := (F0.n 5 (by decide)).trans h5
  replace h6 := (F0.n 6 (by decide)).trans h6
  replace h14 := (F0.n 14 (by decide)).trans h14
  replace h15 := (F0.n 15 (by decide)).trans h15
  replace h31 := (F0.n 31 (by decide)).trans h31
  replace h33 := (F0.n 33 (by decide)).trans h33
  replace h34 := (F0.n 34 (by decide)).trans h34
  replace h35 := (F0.n 35 (by decide)).trans h35
  have h36 := F0.s
  clear F0
  refine heldL 7 38 (v := .int .i64 i) hQ (by kernel_rfl) (by rw [hs]; decide) (by kernel_rfl) (by kernel_rfl) (by kernel_rfl) hH ?z11 ?z12
  case z11 => (intro o ho; obtain rfl := Option.some.inj ho; exact Or.inl ⟨rfl, fun w1 h1w => k_move rfl (ev_tmp h6)⟩)
  case z12 =>
  intro a F0
  replace hs := F0.z.trans hs
  replace hd := F0.e.trans hd
  replace h1 := (F0.n 1 (by decide)).trans h1
  replace h5 := (F0.n 5 (by decide)).trans h5
  replace h6 := (F0.n 6 (by decide)).trans h6
  replace h14 := (F0.n 14 (by decide)).trans h14
  replace h15 := (F0.n 15 (by decide)).trans h15
  replace h31 := (F0.n 31 (by decide)).trans h31
  replace h33 := (F0.n 33 (by decide)).trans h33
  replace h34 := (F0.n 34 (by decide)).trans h34
  replace h35 := (F0.n 35 (by decide)).trans h35
  replace h36 := (F0.n 36 (by decide)).trans h36
  have h38 := F0.s
  clear F0
  refine heldL 8 39 (v := .int .i64 (q : Nat)) hQ (by kernel_rfl) (by rw [hs]; decide) (by kernel_rfl) (by kernel_rfl) (by kernel_rfl) hH ?z13 ?z14
  case z13 => (intro o ho; obtain rfl := Option.some.inj ho; exact Or.inl ⟨rfl, fun w1 h1w => o_quoI rfl (ev_tmp h38) rfl (by decide) hq⟩)
  case z14 =>
  intro a F0
  replace hs := F0.z.trans hs
  replace hd := F0.e.trans hd
  replace h1 := (F0.n 1 (by decide)).trans h1
  replace h5 := (F0.n 5 (by decide)).trans h5
  replace h6 := (F0.n 6 (by decide)).trans h6
  replace h14 := (F0.n 14 (by decide)).trans h14
  replace h15 := (F0.n 15 (by decide)).trans h15
  replace h31 := (F0.n 31 (by decide)).trans h31
  replace h33 := (F0.n 33 (by decide)).trans h33
  replace h34 := (F0.n 34 (by decide)).trans h34
  replace h35 := (F0.n 35 (by decide)).trans h35
  replace h36 := (F0.n 36 (by decide)).trans h36
  replace h38 := (F0.n 38 (by decide)).trans h38
  have h39 := F0.s
  clear F0
  refine heldL_two 1 6 (by kernel_rfl) ?z15 ?z16
  case z15 =>
    refine cont_val 1 32 (v := .slice A L.length cap) (w' := w) (by kernel_rfl) (by rw [hs]; decide) ?z17 trivial ?z18
    case z17 => (intro o ho; obtain rfl := Option.some.inj ho; exact ⟨rfl, k_loadL rfl (ev_tmp h31) (hB.cell 5)⟩)
    case z18 =>
    intro a F0
    replace hs := F0.z.trans hs
    replace hd := F0.e.trans hd
    replace h1 := (F0.n 1 (by decide)).trans h1
    replace h5 := (F0.n 5 (by decide)).trans h5
    replace h6 := (F0.n 6 (by decide)).trans h6
    replace h14 := (F0.n 14 (by decide)).trans h14
    replace h15 := (F0.n 15 (by decide)).trans h15
    replace h31 := (F0.n 31 (by decide)).trans h31
    replace h33 := (F0.n 33 (by decide)).trans h33
    replace h34 := (F0.n 34 (by decide)).trans h34
    replace h35 := (F0.n 35 (by decide)).trans h35
    replace h36 := (F0.n 36 (by decide)).trans h36
    replace h38 := (F0.n 38 (by decide)).trans h38
    replace h39 := (F0.n 39 (by decide)).trans h39
    have h32 := F0.s
    clear F0
    refine heldL_do 6 37 (v := .slice (some ⟨w.heap.size, 0, none⟩) 2 2) (w' := (w.alloc (.cells #[.int .i64 (i - 31), .int .i64 (i - 30)] 3))) (by kernel_rfl) (by kernel_rfl) (by rw [hs]; decide) ?z19 trivial ?z20
    case z19 => (intro o ho; obtain rfl := Option.some.inj ho; exact ⟨rfl, k_slice2 rfl (ev_tmp h34) (ev_tmp h36)⟩)
    case z20 =>
    intro a F0
    replace hs := F0.z.trans hs
    replace hd := F0.e.trans hd
    replace h1 := (F0.n 1 (by decide)).trans h1
    replace h5 := (F0.n 5 (by decide)).trans h5
    replace h6 := (F0.n 6 (by decide)).trans h6
    replace h14 := (F0.n 14 (by decide)).trans h14
    replace h15 := (F0.n 15 (by decide)).trans h15
    replace h31 := (F0.n 31 (by decide)).trans h31
    replace h33 := (F0.n 33 (by decide)).trans h33
    replace h34 := (F0.n 34 (by decide)).trans h34
    replace h35 := (F0.n 35 (by decide)).trans h35
    replace h36 := (F0.n 36 (by decide)).trans h36
    replace h38 := (F0.n 38 (by decide)).trans h38
    replace h39 := (F0.n 39 (by decide)).trans h39
    replace h32 := (F0.n 32 (by decide)).trans h32
    have h37 := F0.s
    clear F0
    obtain ⟨wa, hw1⟩ : ∃ w1, w1 = w.alloc (.cells #[.int .i64 (i - 31), .int .i64 (i - 30)] 3) := ⟨_, rfl⟩
    rw [← hw1]
    have qa : Blk wa w.heap.size 3 #[.int .i64 (i - 31), .int .i64 (i - 30)] := by rw [hw1]; exact Blk.alloc _ _ _
    have la : Below w.heap.size w wa := by rw [hw1]; exact (Below.refl _ _).alloc (Nat.le_refl _) _
    have hOa := hO.exc (Exc.of (b := w.heap.size) la) (fun g hg => by have := (hO.lt g hg).2; omega)
    have hBa := hB.below la hB.lt
    have hMa := hM.below la hM.lt
    have hla : base ≤ wa.heap.size := Nat.le_trans hl la.size
    clear hw1
    refine heldL 9 40 (v := .pointer (some ⟨w.heap.size, q, none⟩)) hQ (by kernel_rfl) (by rw [hs]; decide) (by kernel_rfl) (by kernel_rfl) (by kernel_rfl) hH ?z21 ?z22
    case z21 => (intro o ho; obtain rfl := Option.some.inj ho; exact Or.inl ⟨rfl, fun w1 h1w => k_at rfl rfl (ev_tmp h37) (ev_tmp h39) hq2⟩)
    case z22 =>
    intro a F0
    replace hs := F0.z.trans hs
    replace hd := F0.e.trans hd
    replace h1 := (F0.n 1 (by decide)).trans h1
    replace h5 := (F0.n 5 (by decide)).trans h5
    replace h6 := (F0.n 6 (by decide)).trans h6
    replace h14 := (F0.n 14 (by decide)).trans h14
    replace h15 := (F0.n 15 (by decide)).trans h15
    replace h31 := (F0.n 31 (by decide)).trans h31
    replace h33 := (F0.n 33 (by decide)).trans h33
    replace h34 := (F0.n 34 (by decide)).trans h34
    replace h35 := (F0.n 35 (by decide)).trans h35
    replace h36 := (F0.n 36 (by decide)).trans h36
    replace h38 := (F0.n 38 (by decide)).trans h38
    replace h39 := (F0.n 39 (by decide)).trans h39
    replace h32 := (F0.n 32 (by decide)).trans h32
    replace h37 := (F0.n 37 (by decide)).trans h37
    have h40 := F0.s
    clear F0
    refine heldL_do 10 41 (v := .int .i64 x) (w' := wa) (by kernel_rfl) (by kernel_rfl) (by rw [hs]; decide) ?z23 trivial ?z24
    case z23 => (intro o ho; obtain rfl := Option.some.inj ho; exact ⟨rfl, k_loadI rfl (ev_tmp h40) ((qa.cell q).trans hxq)⟩)
    case z24 =>
    intro a F0
    replace hs := F0.z.trans hs
    replace hd := F0.e.trans hd
    replace h1 := (F0.n 1 (by decide)).trans h1
    replace h5 := (F0.n 5 (by decide)).trans h5
    replace h6 := (F0.n 6 (by decide)).trans h6
    replace h14 := (F0.n 14 (by decide)).trans h14
    replace h15 := (F0.n 15 (by decide)).trans h15
    replace h31 := (F0.n 31 (by decide)).trans h31
    replace h33 := (F0.n 33 (by decide)).trans h33
    replace h34 := (F0.n 34 (by decide)).trans h34
    replace h35 := (F0.n 35 (by decide)).trans h35
    replace h36 := (F0.n 36 (by decide)).trans h36
    replace h38 := (F0.n 38 (by decide)).trans h38
    replace h39 := (F0.n 39 (by decide)).trans h39
    replace h32 := (F0.n 32 (by decide)).trans h32
    replace h37 := (F0.n 37 (by decide)).trans h37
    replace h40 := (F0.n 40 (by decide)).trans h40
    have h41 := F0.s
    clear F0
    refine heldL_do 11 42 (v := .slice (some ⟨wa.heap.size, 0, none⟩) 1 1) (w' := (wa.alloc (.cells #[.int .i64 x] 3))) (by kernel_rfl) (by kernel_rfl) (by rw [hs]; decide) ?z25 trivial ?z26
    case z25 => (intro o ho; obtain rfl := Option.some.inj ho; exact ⟨rfl, k_slice1 rfl (ev_tmp h41)⟩)
    case z26 =>
    intro a F0
    replace hs := F0.z.trans hs
    replace hd := F0.e.trans hd
    replace h1 := (F0.n 1 (by decide)).trans h1
    replace h5 := (F0.n 5 (by decide)).trans h5
    replace h6 := (F0.n 6 (by decide)).trans h6
    replace h14 := (F0.n 14 (by decide)).trans h14
    replace h15 := (F0.n 15 (by decide)).trans h15
    replace h31 := (F0.n 31 (by decide)).trans h31
    replace h33 := (F0.n 33 (by decide)).trans h33
    replace h34 := (F0.n 34 (by decide)).trans h34
    replace h35 := (F0.n 35 (by decide)).trans h35
    replace h36 := (F0.n 36 (by decide)).trans h36
    replace h38 := (F0.n 38 (by decide)).trans h38
    replace h39 := (F0.n 39 (by decide)).trans h39
    replace h32 := (F0.n 32 (by decide)).trans h32
    replace h37 := (F0.n 37 (by decide)).trans h37
    replace h40 := (F0.n 40 (by decide)).trans h40
    replace h41 := (F0.n 41 (by decide)).trans h41
    have h42 := F0.s
    clear F0
    obtain ⟨wb, hw1⟩ : ∃ w1, w1 = wa.alloc (.cells #[.int .i64 x] 3) := ⟨_, rfl⟩
    rw [← hw1]
    have qb : Blk wb wa.heap.size 3 #[.int .i64 x] := by rw [hw1]; exact Blk.alloc _ _ _
    have lb : Below wa.heap.size wa wb := by rw [hw1]; exact (Below.refl _ _).alloc (Nat.le_refl _) _
    have hOb := hOa.exc (Exc.of (b := wa.heap.size) lb) (fun g hg => by have := (hOa.lt g hg).2; omega)
    have hBb := hBa.below lb hBa.lt
    have hMb := hMa.below lb hMa.lt
    have hlb : base ≤ wb.heap.size := Nat.le_trans hla lb.size
    clear hw1
    obtain ⟨v', w2, hr, hO2, hE2⟩ := append_int (c := 1) hOb (qb.cell 0) (by omega) hlb
    obtain ⟨A', cap', rfl, -, -, -⟩ := hO2.ints
    have hB2 := hBb.exc (hE2 base base (Nat.le_refl _)) (by omega) (by omega)
    have hM2 := hMb.exc (hE2 base base (Nat.le_refl _)) (by omega) (by omega)
    refine heldL_do 12 43 (v := .slice A' (L ++ [x]).length cap') (w' := w2) (by kernel_rfl) (by kernel_rfl) (by rw [hs]; decide) ?z27 trivial ?z28
    case z27 => (intro o ho; obtain rfl := Option.some.inj ho; exact ⟨rfl, k_append rfl rfl (ev_tmp h32) (ev_tmp h42) hr⟩)
    case z28 =>
    intro a F0
    replace hs := F0.z.trans hs
    replace hd := F0.e.trans hd
    replace h1 := (F0.n 1 (by decide)).trans h1
    replace h5 := (F0.n 5 (by decide)).trans h5
    replace h6 := (F0.n 6 (by decide)).trans h6
    replace h14 := (F0.n 14 (by decide)).trans h14
    replace h15 := (F0.n 15 (by decide)).trans h15
    replace h31 := (F0.n 31 (by decide)).trans h31
    replace h33 := (F0.n 33 (by decide)).trans h33
    replace h34 := (F0.n 34 (by decide)).trans h34
    replace h35 := (F0.n 35 (by decide)).trans h35
    replace h36 := (F0.n 36 (by decide)).trans h36
    replace h38 := (F0.n 38 (by decide)).trans h38
    replace h39 := (F0.n 39 (by decide)).trans h39
    replace h32 := (F0.n 32 (by decide)).trans h32
    replace h37 := (F0.n 37 (by decide)).trans h37
    replace h40 := (F0.n 40 (by decide)).trans h40
    replace h41 := (F0.n 41 (by decide)).trans h41
    replace h42 := (F0.n 42 (by decide)).trans h42
    have h43 := F0.s
    clear F0
    refine heldL 13 44 (v := .pointer (some ⟨b, 5, none⟩)) hQ (by kernel_rfl) (by rw [hs]; decide) (by kernel_rfl) (by kernel_rfl) (by kernel_rfl) hH ?z29 ?z30
    case z29 => (intro o ho; obtain rfl := Option.some.inj ho; exact Or.inl ⟨rfl, fun w1 h1w => k_field5 rfl (ev_tmp h5)⟩)
    case z30 =>
    intro a F0
    replace hs := F0.z.trans hs
    replace hd := F0.e.trans hd
    replace h1 := (F0.n 1 (by decide)).trans h1
    replace h5 := (F0.n 5 (by decide)).trans h5
    replace h6 := (F0.n 6 (by decide)).trans h6
    replace h14 := (F0.n 14 (by decide)).trans h14
    replace h15 := (F0.n 15 (by decide)).trans h15
    replace h31 := (F0.n 31 (by decide)).trans h31
    replace h33 := (F0.n 33 (by decide)).trans h33
    replace h34 := (F0.n 34 (by decide)).trans h34
    replace h35 := (F0.n 35 (by decide)).trans h35
    replace h36 := (F0.n 36 (by decide)).trans h36
    replace h38 := (F0.n 38 (by decide)).trans h38
    replace h39 := (F0.n 39 (by decide)).trans h39
    replace h32 := (F0.n 32 (by decide)).trans h32
    replace h37 := (F0.n 37 (by decide)).trans h37
    replace h40 := (F0.n 40 (by decide)).trans h40
    replace h41 := (F0.n 41 (by decide)).trans h41
    replace h42 := (F0.n 42 (by decide)).trans h42
    replace h43 := (F0.n 43 (by decide)).trans h43
    have h44 := F0.s
    clear F0
    refine heldL_store 14 (w' := w2.setCell ⟨b, 5, none⟩ (.slice A' (L ++ [x]).length cap')) (by kernel_rfl) (by kernel_rfl) ?z31 trivial ?z32
    case z31 => (intro o ho; obtain rfl := Option.some.inj ho; exact ⟨rfl, k_storeL rfl (ev_tmp h44) (ev_tmp h43) hB2 (by simp)⟩)
    case z32 =>
    obtain ⟨w3, hw3⟩ : ∃ w3, w3 = w2.setCell ⟨b, 5, none⟩ (.slice A' (L ++ [x]).length cap') := ⟨_, rfl⟩
    rw [← hw3]
    have hB3 : Blk w3 b 38 #[.int .i64 3, .int .i64 1, .int .i64 0, .int .i64 0, .slice (some ⟨m, 0, none⟩) 1 1, .slice A' (L ++ [x]).length cap', .slice none 0 0, .slice none 0 0] := by rw [hw3]; exact hB2.set 5 _
    have hE3 : ∀ B, Exc B b w2 w3 := by rw [hw3]; exact exc_set w2 b 5 _
    clear hw3
    refine wpAnyH_done (by kernel_rfl) ?_ _
    exact hR a w3 A' cap' hs hd h1 h5 h14 h15 hB3 (hM2.exc (hE3 w2.heap.size) hM2.lt hmb) (hO2.exc (hE3 w2.heap.size) (fun g hg => ⟨(hO2.lt g hg).2, by have := (hO2.lt g hg).1; omega⟩)) (((Exc.of (la.mono hl)).trans (Exc.of (lb.mono hla))).trans ((hE2 base b (Nat.le_refl _)).trans (hE3 base))) (Nat.le_trans hlb (Nat.le_trans (hE2 0 0 (Nat.zero_le _)).size (hE3 0).size))
  case z16 =>
    refine cont_val 6 37 (v := .slice (some ⟨w.heap.size, 0, none⟩) 2 2) (w' := (w.alloc (.cells #[.int .i64 (i - 31), .int .i64 (i - 30)] 3))) (by kernel_rfl) (by rw [hs]; decide) ?z33 trivial ?z34
    case z33 => (intro o ho; obtain rfl := Option.some.inj ho; exact ⟨rfl, k_slice2 rfl (ev_tmp h34) (ev_tmp h36)⟩)
    case z34 =>
    intro a F0
    replace hs := F0.z.trans hs
    replace hd := F0.e.trans hd
    replace h1 := (F0.n 1 (by decide)).trans h1
    replace h5 := (F0.n 5 (by decide)).trans h5
    replace h6 := (F0.n 6 (by decide)).trans h6
    replace h14 := (F0.n 14 (by decide)).trans h14
    replace h15 := (F0.n 15 (by decide)).trans h15
    replace h31 := (F0.n 31 (by decide)).trans h31
    replace h33 := (F0.n 33 (by decide)).trans h33
    replace h34 := (F0.n 34 (by decide)).trans h34
    replace h35 := (F0.n 35 (by decide)).trans h35
    replace h36 := (F0.n 36 (by decide)).trans h36
    replace h38 := (F0.n 38 (by decide)).trans h38
    replace h39 := (F0.n 39 (by decide)).trans h39
    have h37 := F0.s
    clear F0
    obtain ⟨wa, hw1⟩ : ∃ w1, w1 = w.alloc (.cells #[.int .i64 (i - 31), .int .i64 (i - 30)] 3) := ⟨_, rfl⟩
    rw [← hw1]
    have qa : Blk wa w.heap.size 3 #[.int .i64 (i - 31), .int .i64 (i - 30)] := by rw [hw1]; exact Blk.alloc _ _ _
    have la : Below w.heap.size w wa := by rw [hw1]; exact (Below.refl _ _).alloc (Nat.le_refl _) _
    have hOa := hO.exc (Exc.of (b := w.heap.size) la) (fun g hg => by have := (hO.lt g hg).2; omega)
    have hBa := hB.below la hB.lt
    have hMa := hM.below la hM.lt
    have hla : base ≤ wa.heap.size := Nat.le_trans hl la.size
    clear hw1
    refine heldL 9 40 (v := .pointer (some ⟨w.heap.size, q, none⟩)) hQ (by kernel_rfl) (by rw [hs]; decide) (by kernel_rfl) (by kernel_rfl) (by kernel_rfl) hH ?z35 ?z36
    case z35 => (intro o ho; obtain rfl := Option.some.inj ho; exact Or.inl ⟨rfl, fun w1 h1w => k_at rfl rfl (ev_tmp h37) (ev_tmp h39) hq2⟩)
    case z36 =>
    intro a F0
    replace hs := F0.z.trans hs
    replace hd := F0.e.trans hd
    replace h1 := (F0.n 1 (by decide)).trans h1
    replace h5 := (F0.n 5 (by decide)).trans h5
    replace h6 := (F0.n 6 (by decide)).trans h6
    replace h14 := (F0.n 14 (by decide)).trans h14
    replace h15 := (F0.n 15 (by decide)).trans h15
    replace h31 := (F0.n 31 (by decide)).trans h31
    replace h33 := (F0.n 33 (by decide)).trans h33
    replace h34 := (F0.n 34 (by decide)).trans h34
    replace h35 := (F0.n 35 (by decide)).trans h35
    replace h36 := (F0.n 36 (by decide)).trans h36
    replace h38 := (F0.n 38 (by decide)).trans h38
    replace h39 := (F0.n 39 (by decide)).trans h39
    replace h37 := (F0.n 37 (by decide)).trans h37
    have h40 := F0.s
    clear F0
    refine heldL_two 1 10 (by kernel_rfl) ?z37 ?z38
    case z37 =>
      refine cont_val 1 32 (v := .slice A L.length cap) (w' := wa) (by kernel_rfl) (by rw [hs]; decide) ?z39 trivial ?z40
      case z39 => (intro o ho; obtain rfl := Option.some.inj ho; exact ⟨rfl, k_loadL rfl (ev_tmp h31) (hBa.cell 5)⟩)
      case z40 =>
      intro a F0
      replace hs := F0.z.trans hs
      replace hd := F0.e.trans hd
      replace h1 := (F0.n 1 (by decide)).trans h1
      replace h5 := (F0.n 5 (by decide)).trans h5
      replace h6 := (F0.n 6 (by decide)).trans h6
      replace h14 := (F0.n 14 (by decide)).trans h14
      replace h15 := (F0.n 15 (by decide)).trans h15
      replace h31 := (F0.n 31 (by decide)).trans h31
      replace h33 := (F0.n 33 (by decide)).trans h33
      replace h34 := (F0.n 34 (by decide)).trans h34
      replace h35 := (F0.n 35 (by decide)).trans h35
      replace h36 := (F0.n 36 (by decide)).trans h36
      replace h38 := (F0.n 38 (by decide)).trans h38
      replace h39 := (F0.n 39 (by decide)).trans h39
      replace h37 := (F0.n 37 (by decide)).trans h37
      replace h40 := (F0.n 40 (by decide)).trans h40
      have h32 := F0.s
      clear F0
      refine heldL_do 10 41 (v := .int .i64 x) (w' := wa) (by kernel_rfl) (by kernel_rfl) (by rw [hs]; decide) ?z41 trivial ?z42
      case z41 => (intro o ho; obtain rfl := Option.some.inj ho; exact ⟨rfl, k_loadI rfl (ev_tmp h40) ((qa.cell q).trans hxq)⟩)
      case z42 =>
      intro a F0
      replace hs := F0.z.trans hs
      replace hd := F0.e.trans hd
      replace h1 := (F0.n 1 (by decide)).trans h1
      replace h5 := (F0.n 5 (by decide)).trans h5
      replace h6 := (F0.n 6 (by decide)).trans h6
      replace h14 := (F0.n 14 (by decide)).trans h14
      replace h15 := (F0.n 15 (by decide)).trans h15
      replace h31 := (F0.n 31 (by decide)).trans h31
      replace h33 := (F0.n 33 (by decide)).trans h33
      replace h34 := (F0.n 34 (by decide)).trans h34
      replace h35 := (F0.n 35 (by decide)).trans h35
      replace h36 := (F0.n 36 (by decide)).trans h36
      replace h38 := (F0.n 38 (by decide)).trans h38
      replace h39 := (F0.n 39 (by decide)).trans h39
      replace h37 := (F0.n 37 (by decide)).trans h37
      replace h40 := (F0.n 40 (by decide)).trans h40
      replace h32 := (F0.n 32 (by decide)).trans h32
      have h41 := F0.s
      clear F0
      refine heldL_do 11 42 (v := .slice (some ⟨wa.heap.size, 0, none⟩) 1 1) (w' := (wa.alloc (.cells #[.int .i64 x] 3))) (by kernel_rfl) (by kernel_rfl) (by rw [hs]; decide) ?z43 trivial ?z44
      case z43 => (intro o ho; obtain rfl := Option.some.inj ho; exact ⟨rfl, k_slice1 rfl (ev_tmp h41)⟩)
      case z44 =>
      intro a F0
      replace hs := F0.z.trans hs
      replace hd := F0.e.trans hd
      replace h1 := (F0.n 1 (by decide)).trans h1
      replace h5 := (F0.n 5 (by decide)).trans h5
      replace h6 := (F0.n 6 (by decide)).trans h6
      replace h14 := (F0.n 14 (by decide)).trans h14
      replace h15 := (F0.n 15 (by decide)).trans h15
      replace h31 := (F0.n 31 (by decide)).trans h31
      replace h33 := (F0.n 33 (by decide)).trans h33
      replace h34 := (F0.n 34 (by decide)).trans h34
      replace h35 := (F0.n 35 (by decide)).trans h35
      replace h36 := (F0.n 36 (by decide)).trans h36
      replace h38 := (F0.n 38 (by decide)).trans h38
      replace h39 := (F0.n 39 (by decide)).trans h39
      replace h37 := (F0.n 37 (by decide)).trans h37
      replace h40 := (F0.n 40 (by decide)).trans h40
      replace h32 := (F0.n 32 (by decide)).trans h32
      replace h41 := (F0.n 41 (by decide)).trans h41
      have h42 := F0.s
      clear F0
      obtain ⟨wb, hw1⟩ : ∃ w1, w1 = wa.alloc (.cells #[.int .i64 x] 3) := ⟨_, rfl⟩
      rw [← hw1]
      have qb : Blk wb wa.heap.size 3 #[.int .i64 x] := by rw [hw1]; exact Blk.alloc _ _ _
      have lb : Below wa.heap.size wa wb := by rw [hw1]; exact (Below.refl _ _).alloc (Nat.le_refl _) _
      have hOb := hOa.exc (Exc.of (b := wa.heap.size) lb) (fun g hg => by have := (hOa.lt g hg).2; omega)
      have hBb := hBa.below lb hBa.lt
      have hMb := hMa.below lb hMa.lt
      have hlb : base ≤ wb.heap.size := Nat.le_trans hla lb.size
      clear hw1
      obtain ⟨v', w2, hr, hO2, hE2⟩ := append_int (c := 1) hOb (qb.cell 0) (by omega) hlb
      obtain ⟨A', cap', rfl, -, -, -⟩ := hO2.ints
      have hB2 := hBb.exc (hE2 base base (Nat.le_refl _)) (by omega) (by omega)
      have hM2 := hMb.exc (hE2 base base (Nat.le_refl _)) (by omega) (by omega)
      refine heldL_do 12 43 (v := .slice A' (L ++ [x]).length cap') (w' := w2) (by kernel_rfl) (by kernel_rfl) (by rw [hs]; decide) ?z45 trivial ?z46
      case z45 => (intro o ho; obtain rfl := Option.some.inj ho; exact ⟨rfl, k_append rfl rfl (ev_tmp h32) (ev_tmp h42) hr⟩)
      case z46 =>
      intro a F0
      replace hs := F0.z.trans hs
      replace hd := F0.e.trans hd
      replace h1 := (F0.n 1 (by decide)).trans h1
      replace h5 := (F0.n 5 (by decide)).trans h5
      replace h6 := (F0.n 6 (by decide)).trans h6
      replace h14 := (F0.n 14 (by decide)).trans h14
      replace h15 := (F0.n 15 (by decide)).trans h15
      replace h31 := (F0.n 31 (by decide)).trans h31
      replace h33 := (F0.n 33 (by decide)).trans h33
      replace h34 := (F0.n 34 (by decide)).trans h34
      replace h35 := (F0.n 35 (by decide)).trans h35
      replace h36 := (F0.n 36 (by decide)).trans h36
      replace h38 := (F0.n 38 (by decide)).trans h38
      replace h39 := (F0.n 39 (by decide)).trans h39
      replace h37 := (F0.n 37 (by decide)).trans h37
      replace h40 := (F0.n 40 (by decide)).trans h40
      replace h32 := (F0.n 32 (by decide)).trans h32
      replace h41 := (F0.n 41 (by decide)).trans h41
      replace h42 := (F0.n 42 (by decide)).trans h42
      have h43 := F0.s
      clear F0
      refine heldL 13 44 (v := .pointer (some ⟨b, 5, none⟩)) hQ (by kernel_rfl) (by rw [hs]; decide) (by kernel_rfl) (by kernel_rfl) (by kernel_rfl) hH ?z47 ?z48
      case z47 => (intro o ho; obtain rfl := Option.some.inj ho; exact Or.inl ⟨rfl, fun w1 h1w => k_field5 rfl (ev_tmp h5)⟩)
      case z48 =>
      intro a F0
      replace hs := F0.z.trans hs
      replace hd := F0.e.trans hd
      replace h1 := (F0.n 1 (by decide)).trans h1
      replace h5 := (F0.n 5 (by decide)).trans h5
      replace h6 := (F0.n 6 (by decide)).trans h6
      replace h14 := (F0.n 14 (by decide)).trans h14
      replace h15 := (F0.n 15 (by decide)).trans h15
      replace h31 := (F0.n 31 (by decide)).trans h31
      replace h33 := (F0.n 33 (by decide)).trans h33
      replace h34 := (F0.n 34 (by decide)).trans h34
      replace h35 := (F0.n 35 (by decide)).trans h35
      replace h36 := (F0.n 36 (by decide)).trans h36
      replace h38 := (F0.n 38 (by decide)).trans h38
      replace h39 := (F0.n 39 (by decide)).trans h39
      replace h37 := (F0.n 37 (by decide)).trans h37
      replace h40 := (F0.n 40 (by decide)).trans h40
      replace h32 := (F0.n 32 (by decide)).trans h32
      replace h41 := (F0.n 41 (by decide)).trans h41
      replace h42 := (F0.n 42 (by decide)).trans h42
      replace h43 := (F0.n 43 (by decide)).trans h43
      have h44 := F0.s
      clear F0
      refine heldL_store 14 (w' := w2.setCell ⟨b, 5, none⟩ (.slice A' (L ++ [x]).length cap')) (by kernel_rfl) (by kernel_rfl) ?z49 trivial ?z50
      case z49 => (intro o ho; obtain rfl := Option.some.inj ho; exact ⟨rfl, k_storeL rfl (ev_tmp h44) (ev_tmp h43) hB2 (by simp)⟩)
      case z50 =>
      obtain ⟨w3, hw3⟩ : ∃ w3, w3 = w2.setCell ⟨b, 5, none⟩ (.slice A' (L ++ [x]).length cap') := ⟨_, rfl⟩
      rw [← hw3]
      have hB3 : Blk w3 b 38 #[.int .i64 3, .int .i64 1, .int .i64 0, .int .i64 0, .slice (some ⟨m, 0, none⟩) 1 1, .slice A' (L ++ [x]).length cap', .slice none 0 0, .slice none 0 0] := by rw [hw3]; exact hB2.set 5 _
      have hE3 : ∀ B, Exc B b w2 w3 := by rw [hw3]; exact exc_set w2 b 5 _
      clear hw3
      refine wpAnyH_done (by kernel_rfl) ?_ _
      exact hR a w3 A' cap' hs hd h1 h5 h14 h15 hB3 (hM2.exc (hE3 w2.heap.size) hM2.lt hmb) (hO2.exc (hE3 w2.heap.size) (fun g hg => ⟨(hO2.lt g hg).2, by have := (hO2.lt g hg).1; omega⟩)) (((Exc.of (la.mono hl)).trans (Exc.of (lb.mono hla))).trans ((hE2 base b (Nat.le_refl _)).trans (hE3 base))) (Nat.le_trans hlb (Nat.le_trans (hE2 0 0 (Nat.zero_le _)).size (hE3 0).size))
    case z38 =>
      refine cont_val 10 41 (v := .int .i64 x) (w' := wa) (by kernel_rfl) (by rw [hs]; decide) ?z51 trivial ?z52
      case z51 => (intro o ho; obtain rfl := Option.some.inj ho; exact ⟨rfl, k_loadI rfl (ev_tmp h40) ((qa.cell q).trans hxq)⟩)
      case z52 =>
      intro a F0
      replace hs := F0.z.trans hs
      replace hd := F0.e.trans hd
      replace h1 := (F0.n 1 (by decide)).trans h1
      replace h5 := (F0.n 5 (by decide)).trans h5
      replace h6 := (F0.n 6 (by decide)).trans h6
      replace h14 := (F0.n 14 (by decide)).trans h14
      replace h15 := (F0.n 15 (by decide)).trans h15
      replace h31 := (F0.n 31 (by decide)).trans h31
      replace h33 := (F0.n 33 (by decide)).trans h33
      replace h34 := (F0.n 34 (by decide)).trans h34
      replace h35 := (F0.n 35 (by decide)).trans h35
      replace h36 := (F0.n 36 (by decide)).trans h36
      replace h38 := (F0.n 38 (by decide)).trans h38
      replace h39 := (F0.n 39 (by decide)).trans h39
      replace h37 := (F0.n 37 (by decide)).trans h37
      replace h40 := (F0.n 40 (by decide)).trans h40
      have h41 := F0.s
      clear F0
      refine heldL_two 1 11 (by kernel_rfl) ?z53 ?z54
      case z53 =>
        refine cont_val 1 32 (v := .slice A L.length cap) (w' := wa) (by kernel_rfl) (by rw [hs]; decide) ?z55 trivial ?z56
        case z55 => (intro o ho; obtain rfl := Option.some.inj ho; exact ⟨rfl, k_loadL rfl (ev_tmp h31) (hBa.cell 5)⟩)
        case z56 =>
        intro a F0
        replace hs := F0.z.trans hs
        replace hd := F0.e.trans hd
        replace h1 := (F0.n 1 (by decide)).trans h1
        replace h5 := (F0.n 5 (by decide)).trans h5
        replace h6 := (F0.n 6 (by decide)).trans h6
        replace h14 := (F0.n 14 (by decide)).trans h14
        replace h15 := (F0.n 15 (by decide)).trans h15
        replace h31 := (F0.n 31 (by decide)).trans h31
        replace h33 := (F0.n 33 (by decide)).trans h33
        replace h34 := (F0.n 34 (by decide)).trans h34
        replace h35 := (F0.n 35 (by decide)).trans h35
        replace h36 := (F0.n 36 (by decide)).trans h36
        replace h38 := (F0.n 38 (by decide)).trans h38
        replace h39 := (F0.n 39 (by decide)).trans h39
        replace h37 := (F0.n 37 (by decide)).trans h37
        replace h40 := (F0.n 40 (by decide)).trans h40
        replace h41 := (F0.n 41 (by decide)).trans h41
        have h32 := F0.s
        clear F0
        refine heldL_do 11 42 (v := .slice (some ⟨wa.heap.size, 0, none⟩) 1 1) (w' := (wa.alloc (.cells #[.int .i64 x] 3))) (by kernel_rfl) (by kernel_rfl) (by rw [hs]; decide) ?z57 trivial ?z58
        case z57 => (intro o ho; obtain rfl := Option.some.inj ho; exact ⟨rfl, k_slice1 rfl (ev_tmp h41)⟩)
        case z58 =>
        intro a F0
        replace hs := F0.z.trans hs
        replace hd := F0.e.trans hd
        replace h1 := (F0.n 1 (by decide)).trans h1
        replace h5 := (F0.n 5 (by decide)).trans h5
        replace h6 := (F0.n 6 (by decide)).trans h6
        replace h14 := (F0.n 14 (by decide)).trans h14
        replace h15 := (F0.n 15 (by decide)).trans h15
        replace h31 := (F0.n 31 (by decide)).trans h31
        replace h33 := (F0.n 33 (by decide)).trans h33
        replace h34 := (F0.n 34 (by decide)).trans h34
        replace h35 := (F0.n 35 (by decide)).trans h35
        replace h36 := (F0.n 36 (by decide)).trans h36
        replace h38 := (F0.n 38 (by decide)).trans h38
        replace h39 := (F0.n 39 (by decide)).trans h39
        replace h37 := (F0.n 37 (by decide)).trans h37
        replace h40 := (F0.n 40 (by decide)).trans h40
        replace h41 := (F0.n 41 (by decide)).trans h41
        replace h32 := (F0.n 32 (by decide)).trans h32
        have h42 := F0.s
        clear F0
        obtain ⟨wb, hw1⟩ : ∃ w1, w1 = wa.alloc (.cells #[.int .i64 x] 3) := ⟨_, rfl⟩
        rw [← hw1]
        have qb : Blk wb wa.heap.size 3 #[.int .i64 x] := by rw [hw1]; exact Blk.alloc _ _ _
        have lb : Below wa.heap.size wa wb := by rw [hw1]; exact (Below.refl _ _).alloc (Nat.le_refl _) _
        have hOb := hOa.exc (Exc.of (b := wa.heap.size) lb) (fun g hg => by have := (hOa.lt g hg).2; omega)
        have hBb := hBa.below lb hBa.lt
        have hMb := hMa.below lb hMa.lt
        have hlb : base ≤ wb.heap.size := Nat.le_trans hla lb.size
        clear hw1
        obtain ⟨v', w2, hr, hO2, hE2⟩ := append_int (c := 1) hOb (qb.cell 0) (by omega) hlb
        obtain ⟨A', cap', rfl, -, -, -⟩ := hO2.ints
        have hB2 := hBb.exc (hE2 base base (Nat.le_refl _)) (by omega) (by omega)
        have hM2 := hMb.exc (hE2 base base (Nat.le_refl _)) (by omega) (by omega)
        refine heldL_do 12 43 (v := .slice A' (L ++ [x]).length cap') (w' := w2) (by kernel_rfl) (by kernel_rfl) (by rw [hs]; decide) ?z59 trivial ?z60
        case z59 => (intro o ho; obtain rfl := Option.some.inj ho; exact ⟨rfl, k_append rfl rfl (ev_tmp h32) (ev_tmp h42) hr⟩)
        case z60 =>
        intro a F0
        replace hs := F0.z.trans hs
        replace hd := F0.e.trans hd
        replace h1 := (F0.n 1 (by decide)).trans h1
        replace h5 := (F0.n 5 (by decide)).trans h5
        replace h6 := (F0.n 6 (by decide)).trans h6
        replace h14 := (F0.n 14 (by decide)).trans h14
        replace h15 := (F0.n 15 (by decide)).trans h15
        replace h31 := (F0.n 31 (by decide)).trans h31
        replace h33 := (F0.n 33 (by decide)).trans h33
        replace h34 := (F0.n 34 (by decide)).trans h34
        replace h35 := (F0.n 35 (by decide)).trans h35
        replace h36 := (F0.n 36 (by decide)).trans h36
        replace h38 := (F0.n 38 (by decide)).trans h38
        replace h39 := (F0.n 39 (by decide)).trans h39
        replace h37 := (F0.n 37 (by decide)).trans h37
        replace h40 := (F0.n 40 (by decide)).trans h40
        replace h41 := (F0.n 41 (by decide)).trans h41
        replace h32 := (F0.n 32 (by decide)).trans h32
        replace h42 := (F0.n 42 (by decide)).trans h42
        have h43 := F0.s
        clear F0
        refine heldL 13 44 (v := .pointer (some ⟨b, 5, none⟩)) hQ (by kernel_rfl) (by rw [hs]; decide) (by kernel_rfl) (by kernel_rfl) (by kernel_rfl) hH ?z61 ?z62
        case z61 => (intro o ho; obtain rfl := Option.some.inj ho; exact Or.inl ⟨rfl, fun w1 h1w => k_field5 rfl (ev_tmp h5)⟩)
        case z62 =>
        intro a F0
        replace hs := F0.z.trans hs
        replace hd := F0.e.trans hd
        replace h1 := (F0.n 1 (by decide)).trans h1
        replace h5 := (F0.n 5 (by decide)).trans h5
        replace h6 := (F0.n 6 (by decide)).trans h6
        replace h14 := (F0.n 14 (by decide)).trans h14
        replace h15 := (F0.n 15 (by decide)).trans h15
        replace h31 := (F0.n 31 (by decide)).trans h31
        replace h33 := (F0.n 33 (by decide)).trans h33
        replace h34 := (F0.n 34 (by decide)).trans h34
        replace h35 := (F0.n 35 (by decide)).trans h35
        replace h36 := (F0.n 36 (by decide)).trans h36
        replace h38 := (F0.n 38 (by decide)).trans h38
        replace h39 := (F0.n 39 (by decide)).trans h39
        replace h37 := (F0.n 37 (by decide)).trans h37
        replace h40 := (F0.n 40 (by decide)).trans h40
        replace h41 := (F0.n 41 (by decide)).trans h41
        replace h32 := (F0.n 32 (by decide)).trans h32
        replace h42 := (F0.n 42 (by decide)).trans h42
        replace h43 := (F0.n 43 (by decide)).trans h43
        have h44 := F0.s
        clear F0
        refine heldL_store 14 (w' := w2.setCell ⟨b, 5, none⟩ (.slice A' (L ++ [x]).length cap')) (by kernel_rfl) (by kernel_rfl) ?z63 trivial ?z64
        case z63 => (intro o ho; obtain rfl := Option.some.inj ho; exact ⟨rfl, k_storeL rfl (ev_tmp h44) (ev_tmp h43) hB2 (by simp)⟩)
        case z64 =>
        obtain ⟨w3, hw3⟩ : ∃ w3, w3 = w2.setCell ⟨b, 5, none⟩ (.slice A' (L ++ [x]).length cap') := ⟨_, rfl⟩
        rw [← hw3]
        have hB3 : Blk w3 b 38 #[.int .i64 3, .int .i64 1, .int .i64 0, .int .i64 0, .slice (some ⟨m, 0, none⟩) 1 1, .slice A' (L ++ [x]).length cap', .slice none 0 0, .slice none 0 0] := by rw [hw3]; exact hB2.set 5 _
        have hE3 : ∀ B, Exc B b w2 w3 := by rw [hw3]; exact exc_set w2 b 5 _
        clear hw3
        refine wpAnyH_done (by kernel_rfl) ?_ _
        exact hR a w3 A' cap' hs hd h1 h5 h14 h15 hB3 (hM2.exc (hE3 w2.heap.size) hM2.lt hmb) (hO2.exc (hE3 w2.heap.size) (fun g hg => ⟨(hO2.lt g hg).2, by have := (hO2.lt g hg).1; omega⟩)) (((Exc.of (la.mono hl)).trans (Exc.of (lb.mono hla))).trans ((hE2 base b (Nat.le_refl _)).trans (hE3 base))) (Nat.le_trans hlb (Nat.le_trans (hE2 0 0 (Nat.zero_le _)).size (hE3 0).size))
      case z54 =>
        refine cont_val 11 42 (v := .slice (some ⟨wa.heap.size, 0, none⟩) 1 1) (w' := (wa.alloc (.cells #[.int .i64 x] 3))) (by kernel_rfl) (by rw [hs]; decide) ?z65 trivial ?z66
        case z65 => (intro o ho; obtain rfl := Option.some.inj ho; exact ⟨rfl, k_slice1 rfl (ev_tmp h41)⟩)
        case z66 =>
        intro a F0
        replace hs := F0.z.trans hs
        replace hd := F0.e.trans hd
        replace h1 := (F0.n 1 (by decide)).trans h1
        replace h5 := (F0.n 5 (by decide)).trans h5
        replace h6 := (F0.n 6 (by decide)).trans h6
        replace h14 := (F0.n 14 (by decide)).trans h14
        replace h15 := (F0.n 15 (by decide)).trans h15
        replace h31 := (F0.n 31 (by decide)).trans h31
        replace h33 := (F0.n 33 (by decide)).trans h33
        replace h34 := (F0.n 34 (by decide)).trans h34
        replace h35 := (F0.n 35 (by decide)).trans h35
        replace h36 := (F0.n 36 (by decide)).trans h36
        replace h38 := (F0.n 38 (by decide)).trans h38
        replace h39 := (F0.n 39 (by decide)).trans h39
        replace h37 := (F0.n 37 (by decide)).trans h37
        replace h40 := (F0.n 40 (by decide)).trans h40
        replace h41 := (F0.n 41 (by decide)).trans h41
        have h42 := F0.s
        clear F0
        obtain ⟨wb, hw1⟩ : ∃ w1, w1 = wa.alloc (.cells #[.int .i64 x] 3) := ⟨_, rfl⟩
        rw [← hw1]
        have qb : Blk wb wa.heap.size 3 #[.int .i64 x] := by rw [hw1]; exact Blk.alloc _ _ _
        have lb : Below wa.heap.size wa wb := by rw [hw1]; exact (Below.refl _ _).alloc (Nat.le_refl _) _
        have hOb := hOa.exc (Exc.of (b := wa.heap.size) lb) (fun g hg => by have := (hOa.lt g hg).2; omega)
        have hBb := hBa.below lb hBa.lt
        have hMb := hMa.below lb hMa.lt
        have hlb : base ≤ wb.heap.size := Nat.le_trans hla lb.size
        clear hw1
        refine heldL_do 1 32 (v := .slice A L.length cap) (w' := wb) (by kernel_rfl) (by kernel_rfl) (by rw [hs]; decide) ?z67 trivial ?z68
        case z67 => (intro o ho; obtain rfl := Option.some.inj ho; exact ⟨rfl, k_loadL rfl (ev_tmp h31) (hBb.cell 5)⟩)
        case z68 =>
        intro a F0
        replace hs := F0.z.trans hs
        replace hd := F0.e.trans hd
        replace h1 := (F0.n 1 (by decide)).trans h1
        replace h5 := (F0.n 5 (by decide)).trans h5
        replace h6 := (F0.n 6 (by decide)).trans h6
        replace h14 := (F0.n 14 (by decide)).trans h14
        replace h15 := (F0.n 15 (by decide)).trans h15
        replace h31 := (F0.n 31 (by decide)).trans h31
        replace h33 := (F0.n 33 (by decide)).trans h33
        replace h34 := (F0.n 34 (by decide)).trans h34
        replace h35 := (F0.n 35 (by decide)).trans h35
        replace h36 := (F0.n 36 (by decide)).trans h36
        replace h38 := (F0.n 38 (by decide)).trans h38
        replace h39 := (F0.n 39 (by decide)).trans h39
        replace h37 := (F0.n 37 (by decide)).trans h37
        replace h40 := (F0.n 40 (by decide)).trans h40
        replace h41 := (F0.n 41 (by decide)).trans h41
        replace h42 := (F0.n 42 (by decide)).trans h42
        have h32 := F0.s
        clear F0
        obtain ⟨v', w2, hr, hO2, hE2⟩ := append_int (c := 1) hOb (qb.cell 0) (by omega) hlb
        obtain ⟨A', cap', rfl, -, -, -⟩ := hO2.ints
        have hB2 := hBb.exc (hE2 base base (Nat.le_refl _)) (by omega) (by omega)
        have hM2 := hMb.exc (hE2 base base (Nat.le_refl _)) (by omega) (by omega)
        refine heldL_do 12 43 (v := .slice A' (L ++ [x]).length cap') (w' := w2) (by kernel_rfl) (by kernel_rfl) (by rw [hs]; decide) ?z69 trivial ?z70
        case z69 => (intro o ho; obtain rfl := Option.some.inj ho; exact ⟨rfl, k_append rfl rfl (ev_tmp h32) (ev_tmp h42) hr⟩)
        case z70 =>
        intro a F0
        replace hs := F0.z.trans hs
        replace hd := F0.e.trans hd
        replace h1 := (F0.n 1 (by decide)).trans h1
        replace h5 := (F0.n 5 (by decide)).trans h5
        replace h6 := (F0.n 6 (by decide)).trans h6
        replace h14 := (F0.n 14 (by decide)).trans h14
        replace h15 := (F0.n 15 (by decide)).trans h15
        replace h31 := (F0.n 31 (by decide)).trans h31
        replace h33 := (F0.n 33 (by decide)).trans h33
        replace h34 := (F0.n 34 (by decide)).trans h34
        replace h35 := (F0.n 35 (by decide)).trans h35
        replace h36 := (F0.n 36 (by decide)).trans h36
        replace h38 := (F0.n 38 (by decide)).trans h38
        replace h39 := (F0.n 39 (by decide)).trans h39
        replace h37 := (F0.n 37 (by decide)).trans h37
        replace h40 := (F0.n 40 (by decide)).trans h40
        replace h41 := (F0.n 41 (by decide)).trans h41
        replace h42 := (F0.n 42 (by decide)).trans h42
        replace h32 := (F0.n 32 (by decide)).trans h32
        have h43 := F0.s
        clear F0
        refine heldL 13 44 (v := .pointer (some ⟨b, 5, none⟩)) hQ (by kernel_rfl) (by rw [hs]; decide) (by kernel_rfl) (by kernel_rfl) (by kernel_rfl) hH ?z71 ?z72
        case z71 => (intro o ho; obtain rfl := Option.some.inj ho; exact Or.inl ⟨rfl, fun w1 h1w => k_field5 rfl (ev_tmp h5)⟩)
        case z72 =>
        intro a F0
        replace hs := F0.z.trans hs
        replace hd := F0.e.trans hd
        replace h1 := (F0.n 1 (by decide)).trans h1
        replace h5 := (F0.n 5 (by decide)).trans h5
        replace h6 := (F0.n 6 (by decide)).trans h6
        replace h14 := (F0.n 14 (by decide)).trans h14
        replace h15 := (F0.n 15 (by decide)).trans h15
        replace h31 := (F0.n 31 (by decide)).trans h31
        replace h33 := (F0.n 33 (by decide)).trans h33
        replace h34 := (F0.n 34 (by decide)).trans h34
        replace h35 := (F0.n 35 (by decide)).trans h35
        replace h36 := (F0.n 36 (by decide)).trans h36
        replace h38 := (F0.n 38 (by decide)).trans h38
        replace h39 := (F0.n 39 (by decide)).trans h39
        replace h37 := (F0.n 37 (by decide)).trans h37
        replace h40 := (F0.n 40 (by decide)).trans h40
        replace h41 := (F0.n 41 (by decide)).trans h41
        replace h42 := (F0.n 42 (by decide)).trans h42
        replace h32 := (F0.n 32 (by decide)).trans h32
        replace h43 := (F0.n 43 (by decide)).trans h43
        have h44 := F0.s
        clear F0
        refine heldL_store 14 (w' := w2.setCell ⟨b, 5, none⟩ (.slice A' (L ++ [x]).length cap')) (by kernel_rfl) (by kernel_rfl) ?z73 trivial ?z74
        case z73 => (intro o ho; obtain rfl := Option.some.inj ho; exact ⟨rfl, k_storeL rfl (ev_tmp h44) (ev_tmp h43) hB2 (by simp)⟩)
        case z74 =>
        obtain ⟨w3, hw3⟩ : ∃ w3, w3 = w2.setCell ⟨b, 5, none⟩ (.slice A' (L ++ [x]).length cap') := ⟨_, rfl⟩
        rw [← hw3]
        have hB3 : Blk w3 b 38 #[.int .i64 3, .int .i64 1, .int .i64 0, .int .i64 0, .slice (some ⟨m, 0, none⟩) 1 1, .slice A' (L ++ [x]).length cap', .slice none 0 0, .slice none 0 0] := by rw [hw3]; exact hB2.set 5 _
        have hE3 : ∀ B, Exc B b w2 w3 := by rw [hw3]; exact exc_set w2 b 5 _
        clear hw3
        refine wpAnyH_done (by kernel_rfl) ?_ _
        exact hR a w3 A' cap' hs hd h1 h5 h14 h15 hB3 (hM2.exc (hE3 w2.heap.size) hM2.lt hmb) (hO2.exc (hE3 w2.heap.size) (fun g hg => ⟨(hO2.lt g hg).2, by have := (hO2.lt g hg).1; omega⟩)) (((Exc.of (la.mono hl)).trans (Exc.of (lb.mono hla))).trans ((hE2 base b (Nat.le_refl _)).trans (hE3 base))) (Nat.le_trans hlb (Nat.le_trans (hE2 0 0 (Nat.zero_le _)).size (hE3 0).size))

/-- what holds ahead of each round -/
structure LI0 (w0 : World) (b m base : Nat) (what N i : Int) (A : Option Addr) (cap : Nat) (L : List Int) (a : Act) (w : World) : Prop where
  d : a.defers = []
  z : a.tmps.size = 64
  s1 : a.tmps.getD 1 undef = .int .u8 what
  s5 : a.tmps.getD 5 undef = .pointer (some ⟨b, 0, none⟩)
  s14 : a.tmps.getD 14 undef = .int .i64 N
  s15 : a.tmps.getD 15 undef = .int .i64 i
  i0 : 0 ≤ i
  iN : i ≤ N
  B : Blk w b 38 #[.int .i64 3, .int .i64 1, .int .i64 0, .int .i64 0, .slice (some ⟨m, 0, none⟩) 1 1, .slice A L.length cap, .slice none 0 0, .slice none 0 0]
  M : Blk w m 3 #[.int .i64 1]
  o : OwnI w base (.slice A L.length cap) L
  ln : L.length ≤ i.toNat
  e : Exc base b w0 w
  lt : base ≤ w.heap.size
def LInv0 (w0 : World) (b m base : Nat) (what N : Int) (a : Act) (w : World) : Prop := ∃ i A cap L, LI0 w0 b m base what N i A cap L a w

set_option maxRecDepth 100000 in
set_option maxHeartbeats 1000000 in
theorem long_round0 (w0 : World) (b m base : Nat) (what N : Int) (hb : b < base) (hm : m < base) (hmb : m ≠ b) (hN : N ≤ 100) (hk : what.tmod 3 = 0) (a : Act) (w : World) (Q : Exit → Act → World → Prop) (hQ : Blind Q)
    (hI : LInv0 w0 b m base what N a w) (hend : ∀ i A cap L, LI0 w0 b m base what N i A cap L a w → ¬ i < N → ∀ a' : Act, a'.defers = [] → a'.tmps.size = 64 → a'.tmps.getD 5 undef = .pointer (some ⟨b, 0, none⟩) → Q (.exit 0) a' w) :
    longRound.wp Tryd.prog (Exit.then (fun a' w' => LInv0 w0 b m base what N a' w' ∧ (N - intOf (a'.tmps.getD 15 undef)).toNat < (N - intOf (a.tmps.getD 15 undef)).toNat) Q) a w := by
  obtain ⟨i, A, cap, L, J⟩ := hI
  have hd := J.d; have hs := J.z; have h1 := J.s1; have h5 := J.s5; have h14 := J.s14; have h15 := J.s15
  have hi0 := J.i0; have hiN := J.iN; have hB := J.B; have hM := J.M; have hO := J.o; have hln := J.ln; have hE := J.e; have hl := J.lt
  have k15 : (N - intOf (a.tmps.getD 15 undef)).toNat = (N - i).toNat := by rw [h15]; rfl
  rw [k15]
  clear k15
  unfold longRound
  conv => arg 2; whnf
  by_cases hlt : i < N
  · clear hend J
    by_cases h62 : i < 62
    · refine wp_seq ?_
      refine wp_region (show wpOps _ _ _ [0] _ _ from ?_)
      refine opL 0 16 (v := .bool true) (w' := w) (by kernel_rfl) (by rw [hs]; decide) ?z75 ?z76
      case z75 => (intro o ho; obtain rfl := Option.some.inj ho; exact ⟨rfl, o_ltI rfl (ev_tmp h15) (ev_tmp h14) (decide_eq_true hlt)⟩)
      case z76 =>
      intro a F0
      replace hs := F0.z.trans hs
      replace hd := F0.e.trans hd
      replace h1 := (F0.n 1 (by decide)).trans h1
      replace h5 := (F0.n 5 (by decide)).trans h5
      replace h14 := (F0.n 14 (by decide)).trans h14
      replace h15 := (F0.n 15 (by decide)).trans h15
      have h16 := F0.s
      clear F0
      refine wp_seq ?_
      refine wp_cond_true (ev_tmp h16) ?_
      clear h16
      refine wp_skip ?_
      refine wp_seq ?_
      refine wp_block ?_
      refine wp_seq ?_
      refine wp_region (show wpOps _ _ _ [0, 1] _ _ from ?_)
      refine opL 0 17 (v := .int .i64 i) (w' := w) (by kernel_rfl) (by rw [hs]; decide) ?z77 ?z78
      case z77 => (intro o ho; obtain rfl := Option.some.inj ho; exact ⟨rfl, k_move rfl (ev_tmp h15)⟩)
      case z78 =>
      intro a F0
      replace hs := F0.z.trans hs
      replace hd := F0.e.trans hd
      replace h1 := (F0.n 1 (by decide)).trans h1
      replace h5 := (F0.n 5 (by decide)).trans h5
      replace h14 := (F0.n 14 (by decide)).trans h14
      replace h15 := (F0.n 15 (by decide)).trans h15
      have h17 := F0.s
      clear F0
      refine opL 1 6 (v := .int .i64 i) (w' := w) (by kernel_rfl) (by rw [hs]; decide) ?z79 ?z80
      case z79 => (intro o ho; obtain rfl := Option.some.inj ho; exact ⟨rfl, k_assign rfl (ev_tmp h17)⟩)
      case z80 =>
      intro a F0
      replace hs := F0.z.trans hs
      replace hd := F0.e.trans hd
      replace h1 := (F0.n 1 (by decide)).trans h1
      replace h5 := (F0.n 5 (by decide)).trans h5
      replace h14 := (F0.n 14 (by decide)).trans h14
      replace h15 := (F0.n 15 (by decide)).trans h15
      clear h17
      have h6 := F0.s
      clear F0
      refine wp_seq ?_
      refine wp_region (show wpOps _ _ _ [0, 1] _ _ from ?_)
      refine opL 0 18 (v := .int .u8 what) (w' := w) (by kernel_rfl) (by rw [hs]; decide) ?z81 ?z82
      case z81 => (intro o ho; obtain rfl := Option.some.inj ho; exact ⟨rfl, k_move rfl (ev_tmp h1)⟩)
      case z82 =>
      intro a F0
      replace hs := F0.z.trans hs
      replace hd := F0.e.trans hd
      replace h1 := (F0.n 1 (by decide)).trans h1
      replace h5 := (F0.n 5 (by decide)).trans h5
      replace h14 := (F0.n 14 (by decide)).trans h14
      replace h15 := (F0.n 15 (by decide)).trans h15
      replace h6 := (F0.n 6 (by decide)).trans h6
      have h18 := F0.s
      clear F0
      refine opL 1 19 (v := .int .u8 0) (w' := w) (by kernel_rfl) (by rw [hs]; decide) ?z83 ?z84
      case z83 => (intro o ho; obtain rfl := Option.some.inj ho; exact ⟨rfl, o_remB rfl (ev_tmp h18) rfl (by decide) hk⟩)
      case z84 =>
      intro a F0
      replace hs := F0.z.trans hs
      replace hd := F0.e.trans hd
      replace h1 := (F0.n 1 (by decide)).trans h1
      replace h5 := (F0.n 5 (by decide)).trans h5
      replace h14 := (F0.n 14 (by decide)).trans h14
      replace h15 := (F0.n 15 (by decide)).trans h15
      replace h6 := (F0.n 6 (by decide)).trans h6
      clear h18
      have h19 := F0.s
      clear F0
      refine wp_block ?_
      refine wp_seq ?_
      refine wp_region (show wpOps _ _ _ [0, 1] _ _ from ?_)
      refine opL 0 28 (v := .bool true) (w' := w) (by kernel_rfl) (by rw [hs]; decide) ?z85 ?z86
      case z85 => (intro o ho; obtain rfl := Option.some.inj ho; exact ⟨rfl, o_eqB rfl (ev_tmp h19) rfl (by decide)⟩)
      case z86 =>
      intro a F0
      replace hs := F0.z.trans hs
      replace hd := F0.e.trans hd
      replace h1 := (F0.n 1 (by decide)).trans h1
      replace h5 := (F0.n 5 (by decide)).trans h5
      replace h14 := (F0.n 14 (by decide)).trans h14
      replace h15 := (F0.n 15 (by decide)).trans h15
      replace h6 := (F0.n 6 (by decide)).trans h6
      replace h19 := (F0.n 19 (by decide)).trans h19
      have h28 := F0.s
      clear F0
      refine opL 1 27 (v := .bool true) (w' := w) (by kernel_rfl) (by rw [hs]; decide) ?z87 ?z88
      case z87 => (intro o ho; obtain rfl := Option.some.inj ho; exact ⟨rfl, k_assign rfl (ev_tmp h28)⟩)
      case z88 =>
      intro a F0
      replace hs := F0.z.trans hs
      replace hd := F0.e.trans hd
      replace h1 := (F0.n 1 (by decide)).trans h1
      replace h5 := (F0.n 5 (by decide)).trans h5
      replace h14 := (F0.n 14 (by decide)).trans h14
      replace h15 := (F0.n 15 (by decide)).trans h15
      replace h6 := (F0.n 6 (by decide)).trans h6
      replace h19 := (F0.n 19 (by decide)).trans h19
      clear h28
      have h27 := F0.s
      clear F0
      refine wp_cond_true (ev_tmp h27) ?_
      clear h27
      refine wp_seq ?_
      refine wp_region (show wpOps _ _ _ [0, 1] _ _ from ?_)
      refine opL 0 29 (v := .int .i64 i) (w' := w) (by kernel_rfl) (by rw [hs]; decide) ?z89 ?z90
      case z89 => (intro o ho; obtain rfl := Option.some.inj ho; exact ⟨rfl, k_move rfl (ev_tmp h6)⟩)
      case z90 =>
      intro a F0
      replace hs := F0.z.trans hs
      replace hd := F0.e.trans hd
      replace h1 := (F0.n 1 (by decide)).trans h1
      replace h5 := (F0.n 5 (by decide)).trans h5
      replace h14 := (F0.n 14 (by decide)).trans h14
      replace h15 := (F0.n 15 (by decide)).trans h15
      replace h6 := (F0.n 6 (by decide)).trans h6
      replace h19 := (F0.n 19 (by decide)).trans h19
      have h29 := F0.s
      clear F0
      refine opL 1 30 (v := .bool true) (w' := w) (by kernel_rfl) (by rw [hs]; decide) ?z91 ?z92
      case z91 => (intro o ho; obtain rfl := Option.some.inj ho; exact ⟨rfl, o_ltI rfl (ev_tmp h29) rfl (decide_eq_true h62)⟩)
      case z92 =>
      intro a F0
      replace hs := F0.z.trans hs
      replace hd := F0.e.trans hd
      replace h1 := (F0.n 1 (by decide)).trans h1
      replace h5 := (F0.n 5 (by decide)).trans h5
      replace h14 := (F0.n 14 (by decide)).trans h14
      replace h15 := (F0.n 15 (by decide)).trans h15
      replace h6 := (F0.n 6 (by decide)).trans h6
      replace h19 := (F0.n 19 (by decide)).trans h19
      clear h29
      have h30 := F0.s
      clear F0
      refine wp_cond_true (ev_tmp h30) ?_
      clear h30
      obtain ⟨q, x, hq, hx⟩ := pick62 i hi0 h62
      refine reg11 a w _ (by repeat (first | exact hQ | refine blind_then ?_ | refine blind_block ?_)) b m base what N i x q A cap L hs h1 h5 h6 h14 h15 hi0 h62 hq hx hB hM hO (by omega) hl hb hm hmb ?_
      intro a w3 A' cap' z1 e1 h1' h5' h14' h15' hB3 hM3 hO3 hE3 hl3
      replace hs := z1.trans hs
      replace hd := e1.trans hd
      replace h1 := h1'
      replace h5 := h5'
      replace h14 := h14'
      replace h15 := h15'
      clear h6
      clear h19
      refine wp_region (show wpOps _ _ _ [0, 1] _ _ from ?_)
      refine opL 0 58 (v := .int .i64 (i + 1)) (w' := w3) (by kernel_rfl) (by rw [hs]; decide) ?z93 ?z94
      case z93 => (intro o ho; obtain rfl := Option.some.inj ho; exact ⟨rfl, o_addI rfl (ev_tmp h15) rfl (wrap_small (by omega) (by omega))⟩)
      case z94 =>
      intro a F0
      replace hs := F0.z.trans hs
      replace hd := F0.e.trans hd
      replace h1 := (F0.n 1 (by decide)).trans h1
      replace h5 := (F0.n 5 (by decide)).trans h5
      replace h14 := (F0.n 14 (by decide)).trans h14
      replace h15 := (F0.n 15 (by decide)).trans h15
      have h58 := F0.s
      clear F0
      refine opL 1 15 (v := .int .i64 (i + 1)) (w' := w3) (by kernel_rfl) (by rw [hs]; decide) ?z95 ?z96
      case z95 => (intro o ho; obtain rfl := Option.some.inj ho; exact ⟨rfl, k_move rfl (ev_tmp h58)⟩)
      case z96 =>
      intro a F0
      replace hs := F0.z.trans hs
      replace hd := F0.e.trans hd
      replace h1 := (F0.n 1 (by decide)).trans h1
      replace h5 := (F0.n 5 (by decide)).trans h5
      replace h14 := (F0.n 14 (by decide)).trans h14
      clear h15
      clear h58
      have h15 := F0.s
      clear F0
      refine ⟨⟨i + 1, A', cap', L ++ [x], ⟨hd, hs, h1, h5, h14, h15, by omega, by omega, hB3, hM3, hO3, by simp; omega, hE.trans hE3, hl3⟩⟩, ?_⟩
      rw [h15]
      show (N - (i + 1)).toNat < (N - i).toNat
      omega
    · refine wp_seq ?_
      refine wp_region (show wpOps _ _ _ [0] _ _ from ?_)
      refine opL 0 16 (v := .bool true) (w' := w) (by kernel_rfl) (by rw [hs]; decide) ?z97 ?z98
      case z97 => (intro o ho; obtain rfl := Option.some.inj ho; exact ⟨rfl, o_ltI rfl (ev_tmp h15) (ev_tmp h14) (decide_eq_true hlt)⟩)
      case z98 =>
      intro a F0
      replace hs := F0.z.trans hs
      replace hd := F0.e.trans hd
      replace h1 := (F0.n 1 (by decide)).trans h1
      replace h5 := (F0.n 5 (by decide)).trans h5
      replace h14 := (F0.n 14 (by decide)).trans h14
      replace h15 := (F0.n 15 (by decide)).trans h15
      have h16 := F0.s
      clear F0
      refine wp_seq ?_
      refine wp_cond_true (ev_tmp h16) ?_
      clear h16
      refine wp_skip ?_
      refine wp_seq ?_
      refine wp_block ?_
      refine wp_seq ?_
      refine wp_region (show wpOps _ _ _ [0, 1] _ _ from ?_)
      refine opL 0 17 (v := .int .i64 i) (w' := w) (by kernel_rfl) (by rw [hs]; decide) ?z99 ?z100
      case z99 => (intro o ho; obtain rfl := Option.some.inj ho; exact ⟨rfl, k_move rfl (ev_tmp h15)⟩)
      case z100 =>
      intro a F0
      replace hs := F0.z.trans hs
      replace hd := F0.e.trans hd
      replace h1 := (F0.n 1 (by decide)).trans h1
      replace h5 := (F0.n 5 (by decide)).trans h5
      replace h14 := (F0.n 14 (by decide)).trans h14
      replace h15 := (F0.n 15 (by decide)).trans h15
      have h17 := F0.s
      clear F0
      refine opL 1 6 (v := .int .i64 i) (w' := w) (by kernel_rfl) (by rw [hs]; decide) ?z101 ?z102
      case z101 => (intro o ho; obtain rfl := Option.some.inj ho; exact ⟨rfl, k_assign rfl (ev_tmp h17)⟩)
      case z102 =>
      intro a F0
      replace hs := F0.z.trans hs
      replace hd := F0.e.trans hd
      replace h1 := (F0.n 1 (by decide)).trans h1
      replace h5 := (F0.n 5 (by decide)).trans h5
      replace h14 := (F0.n 14 (by decide)).trans h14
      replace h15 := (F0.n 15 (by decide)).trans h15
      clear h17
      have h6 := F0.s
      clear F0
      refine wp_seq ?_
      refine wp_region (show wpOps _ _ _ [0, 1] _ _ from ?_)
      refine opL 0 18 (v := .int .u8 what) (w' := w) (by kernel_rfl) (by rw [hs]; decide) ?z103 ?z104
      case z103 => (intro o ho; obtain rfl := Option.some.inj ho; exact ⟨rfl, k_move rfl (ev_tmp h1)⟩)
      case z104 =>
      intro a F0
      replace hs := F0.z.trans hs
      replace hd := F0.e.trans hd
      replace h1 := (F0.n 1 (by decide)).trans h1
      replace h5 := (F0.n 5 (by decide)).trans h5
      replace h14 := (F0.n 14 (by decide)).trans h14
      replace h15 := (F0.n 15 (by decide)).trans h15
      replace h6 := (F0.n 6 (by decide)).trans h6
      have h18 := F0.s
      clear F0
      refine opL 1 19 (v := .int .u8 0) (w' := w) (by kernel_rfl) (by rw [hs]; decide) ?z105 ?z106
      case z105 => (intro o ho; obtain rfl := Option.some.inj ho; exact ⟨rfl, o_remB rfl (ev_tmp h18) rfl (by decide) hk⟩)
      case z106 =>
      intro a F0
      replace hs := F0.z.trans hs
      replace hd := F0.e.trans hd
      replace h1 := (F0.n 1 (by decide)).trans h1
      replace h5 := (F0.n 5 (by decide)).trans h5
      replace h14 := (F0.n 14 (by decide)).trans h14
      replace h15 := (F0.n 15 (by decide)).trans h15
      replace h6 := (F0.n 6 (by decide)).trans h6
      clear h18
      have h19 := F0.s
      clear F0
      refine wp_block ?_
      refine wp_seq ?_
      refine wp_region (show wpOps _ _ _ [0, 1] _ _ from ?_)
      refine opL 0 28 (v := .bool true) (w' := w) (by kernel_rfl) (by rw [hs]; decide) ?z107 ?z108
      case z107 => (intro o ho; obtain rfl := Option.some.inj ho; exact ⟨rfl, o_eqB rfl (ev_tmp h19) rfl (by decide)⟩)
      case z108 =>
      intro a F0
      replace hs := F0.z.trans hs
      replace hd := F0.e.trans hd
      replace h1 := (F0.n 1 (by decide)).trans h1
      replace h5 := (F0.n 5 (by decide)).trans h5
      replace h14 := (F0.n 14 (by decide)).trans h14
      replace h15 := (F0.n 15 (by decide)).trans h15
      replace h6 := (F0.n 6 (by decide)).trans h6
      replace h19 := (F0.n 19 (by decide)).trans h19
      have h28 := F0.s
      clear F0
      refine opL 1 27 (v := .bool true) (w' := w) (by kernel_rfl) (by rw [hs]; decide) ?z109 ?z110
      case z109 => (intro o ho; obtain rfl := Option.some.inj ho; exact ⟨rfl, k_assign rfl (ev_tmp h28)⟩)
      case z110 =>
      intro a F0
      replace hs := F0.z.trans hs
      replace hd := F0.e.trans hd
      replace h1 := (F0.n 1 (by decide)).trans h1
      replace h5 := (F0.n 5 (by decide)).trans h5
      replace h14 := (F0.n 14 (by decide)).trans h14
      replace h15 := (F0.n 15 (by decide)).trans h15
      replace h6 := (F0.n 6 (by decide)).trans h6
      replace h19 := (F0.n 19 (by decide)).trans h19
      clear h28
      have h27 := F0.s
      clear F0
      refine wp_cond_true (ev_tmp h27) ?_
      clear h27
      refine wp_seq ?_
      refine wp_region (show wpOps _ _ _ [0, 1] _ _ from ?_)
      refine opL 0 29 (v := .int .i64 i) (w' := w) (by kernel_rfl) (by rw [hs]; decide) ?z111 ?z112
      case z111 => (intro o ho; obtain rfl := Option.some.inj ho; exact ⟨rfl, k_move rfl (ev_tmp h6)⟩)
      case z112 =>
      intro a F0
      replace hs := F0.z.trans hs
      replace hd := F0.e.trans hd
      replace h1 := (F0.n 1 (by decide)).trans h1
      replace h5 := (F0.n 5 (by decide)).trans h5
      replace h14 := (F0.n 14 (by decide)).trans h14
      replace h15 := (F0.n 15 (by decide)).trans h15
      replace h6 := (F0.n 6 (by decide)).trans h6
      replace h19 := (F0.n 19 (by decide)).trans h19
      have h29 := F0.s
      clear F0
      refine opL 1 30 (v := .bool false) (w' := w) (by kernel_rfl) (by rw [hs]; decide) ?z113 ?z114
      case z113 => (intro o ho; obtain rfl := Option.some.inj ho; exact ⟨rfl, o_ltI rfl (ev_tmp h29) rfl (decide_eq_false h62)⟩)
      case z114 =>
      intro a F0
      replace hs := F0.z.trans hs
      replace hd := F0.e.trans hd
      replace h1 := (F0.n 1 (by decide)).trans h1
      replace h5 := (F0.n 5 (by decide)).trans h5
      replace h14 := (F0.n 14 (by decide)).trans h14
      replace h15 := (F0.n 15 (by decide)).trans h15
      replace h6 := (F0.n 6 (by decide)).trans h6
      replace h19 := (F0.n 19 (by decide)).trans h19
      clear h29
      have h30 := F0.s
      clear F0
      refine wp_cond_false (ev_tmp h30) ?_
      clear h30
      refine wp_skip ?_
      refine wp_region (show wpOps _ _ _ [0, 1] _ _ from ?_)
      refine opL 0 58 (v := .int .i64 (i + 1)) (w' := w) (by kernel_rfl) (by rw [hs]; decide) ?z115 ?z116
      case z115 => (intro o ho; obtain rfl := Option.some.inj ho; exact ⟨rfl, o_addI rfl (ev_tmp h15) rfl (wrap_small (by omega) (by omega))⟩)
      case z116 =>
      intro a F0
      replace hs := F0.z.trans hs
      replace hd := F0.e.trans hd
      replace h1 := (F0.n 1 (by decide)).trans h1
      replace h5 := (F0.n 5 (by decide)).trans h5
      replace h14 := (F0.n 14 (by decide)).trans h14
      replace h15 := (F0.n 15 (by decide)).trans h15
      replace h6 := (F0.n 6 (by decide)).trans h6
      replace h19 := (F0.n 19 (by decide)).trans h19
      have h58 := F0.s
      clear F0
      refine opL 1 15 (v := .int .i64 (i + 1)) (w' := w) (by kernel_rfl) (by rw [hs]; decide) ?z117 ?z118
      case z117 => (intro o ho; obtain rfl := Option.some.inj ho; exact ⟨rfl, k_move rfl (ev_tmp h58)⟩)
      case z118 =>
      intro a F0
      replace hs := F0.z.trans hs
      replace hd := F0.e.trans hd
      replace h1 := (F0.n 1 (by decide)).trans h1
      replace h5 := (F0.n 5 (by decide)).trans h5
      replace h14 := (F0.n 14 (by decide)).trans h14
      clear h15
      replace h6 := (F0.n 6 (by decide)).trans h6
      replace h19 := (F0.n 19 (by decide)).trans h19
      clear h58
      have h15 := F0.s
      clear F0
      refine ⟨⟨i + 1, A, cap, L, ⟨hd, hs, h1, h5, h14, h15, by omega, by omega, hB, hM, hO, by omega, hE, hl⟩⟩, ?_⟩
      rw [h15]
      show (N - (i + 1)).toNat < (N - i).toNat
      omega
  · have hend := hend i A cap L J hlt
    clear J
    refine wp_seq ?_
    refine wp_region (show wpOps _ _ _ [0] _ _ from ?_)
    refine opL 0 16 (v := .bool false) (w' := w) (by kernel_rfl) (by rw [hs]; decide) ?z119 ?z120
    case z119 => (intro o ho; obtain rfl := Option.some.inj ho; exact ⟨rfl, o_ltI rfl (ev_tmp h15) (ev_tmp h14) (decide_eq_false hlt)⟩)
    case z120 =>
    intro a F0
    replace hs := F0.z.trans hs
    replace hd := F0.e.trans hd
    replace h1 := (F0.n 1 (by decide)).trans h1
    replace h5 := (F0.n 5 (by decide)).trans h5
    replace h14 := (F0.n 14 (by decide)).trans h14
    replace h15 := (F0.n 15 (by decide)).trans h15
    have h16 := F0.s
    clear F0
    refine wp_seq ?_
    refine wp_cond_false (ev_tmp h16) ?_
    clear h16
    refine wp_exit ?_
    exact hend a hd hs h5

/-- what holds ahead of each round -/
structure LI1 (w0 : World) (b m base : Nat) (what N i : Int) (A : Option Addr) (cap : Nat) (L : List (Int × Int)) (a : Act) (w : World) : Prop where
  d : a.defers = []
  z : a.tmps.size = 64
  s1 : a.tmps.getD 1 undef = .int .u8 what
  s5 : a.tmps.getD 5 undef = .pointer (some ⟨b, 0, none⟩)
  s14 : a.tmps.getD 14 undef = .int .i64 N
  s15 : a.tmps.getD 15 undef = .int .i64 i
  i0 : 0 ≤ i
  iN : i ≤ N
  B : Blk w b 38 #[.int .i64 3, .int .i64 1, .int .i64 0, .int .i64 0, .slice (some ⟨m, 0, none⟩) 1 1, .slice none 0 0, .slice A L.length cap, .slice none 0 0]
  M : Blk w m 3 #[.int .i64 1]
  o : OwnN w base (.slice A L.length cap) L
  ln : L.length ≤ i.toNat
  e : Exc base b w0 w
  lt : base ≤ w.heap.size
def LInv1 (w0 : World) (b m base : Nat) (what N : Int) (a : Act) (w : World) : Prop := ∃ i A cap L, LI1 w0 b m base what N i A cap L a w

set_option maxRecDepth 100000 in
set_option maxHeartbeats 1000000 in
theorem long_round1 (w0 : World) (b m base : Nat) (what N : Int) (hb : b < base) (hm : m < base) (hmb : m ≠ b) (hN : N ≤ 100) (hk : what.tmod 3 = 1) (a : Act) (w : World) (Q : Exit → Act → World → Prop)
    (hI : LInv1 w0 b m base what N a w) (hend : ∀ i A cap L, LI1 w0 b m base what N i A cap L a w → ¬ i < N → ∀ a' : Act, a'.defers = [] → a'.tmps.size = 64 → a'.tmps.getD 5 undef = .pointer (some ⟨b, 0, none⟩) → Q (.exit 0) a' w) :
    longRound.wp Tryd.prog (Exit.then (fun a' w' => LInv1 w0 b m base what N a' w' ∧ (N - intOf (a'.tmps.getD 15 undef)).toNat < (N - intOf (a.tmps.getD 15 undef)).toNat) Q) a w := by
  obtain ⟨i, A, cap, L, J⟩ := hI
  have hd := J.d; have hs := J.z; have h1 := J.s1; have h5 := J.s5; have h14 := J.s14; have h15 := J.s15
  have hi0 := J.i0; have hiN := J.iN; have hB := J.B; have hM := J.M; have hO := J.o; have hln := J.ln; have hE := J.e; have hl := J.lt
  have k15 : (N - intOf (a.tmps.getD 15 undef)).toNat = (N - i).toNat := by rw [h15]; rfl
  rw [k15]
  clear k15
  unfold longRound
  conv => arg 2; whnf
  by_cases hlt : i < N
  · clear hend J
    refine wp_seq ?_
    refine wp_region (show wpOps _ _ _ [0] _ _ from ?_)
    refine opL 0 16 (v := .bool true) (w' := w) (by kernel_rfl) (by rw [hs]; decide) ?z121 ?z122
    case z121 => (intro o ho; obtain rfl := Option.some.inj ho; exact ⟨rfl, o_ltI rfl (ev_tmp h15) (ev_tmp h14) (decide_eq_true hlt)⟩)
    case z122 =>
    intro a F0
    replace hs := F0.z.trans hs
    replace hd := F0.e.trans hd
    replace h1 := (F0.n 1 (by decide)).trans h1
    replace h5 := (F0.n 5 (by decide)).trans h5
    replace h14 := (F0.n 14 (by decide)).trans h14
    replace h15 := (F0.n 15 (by decide)).trans h15
    have h16 := F0.s
    clear F0
    refine wp_seq ?_
    refine wp_cond_true (ev_tmp h16) ?_
    clear h16
    refine wp_skip ?_
    refine wp_seq ?_
    refine wp_block ?_
    refine wp_seq ?_
    refine wp_region (show wpOps _ _ _ [0, 1] _ _ from ?_)
    refine opL 0 17 (v := .int .i64 i) (w' := w) (by kernel_rfl) (by rw [hs]; decide) ?z123 ?z124
    case z123 => (intro o ho; obtain rfl := Option.some.inj ho; exact ⟨rfl, k_move rfl (ev_tmp h15)⟩)
    case z124 =>
    intro a F0
    replace hs := F0.z.trans hs
    replace hd := F0.e.trans hd
    replace h1 := (F0.n 1 (by decide)).trans h1
    replace h5 := (F0.n 5 (by decide)).trans h5
    replace h14 := (F0.n 14 (by decide)).trans h14
    replace h15 := (F0.n 15 (by decide)).trans h15
    have h17 := F0.s
    clear F0
    refine opL 1 6 (v := .int .i64 i) (w' := w) (by kernel_rfl) (by rw [hs]; decide) ?z125 ?z126
    case z125 => (intro o ho; obtain rfl := Option.some.inj ho; exact ⟨rfl, k_assign rfl (ev_tmp h17)⟩)
    case z126 =>
    intro a F0
    replace hs := F0.z.trans hs
    replace hd := F0.e.trans hd
    replace h1 := (F0.n 1 (by decide)).trans h1
    replace h5 := (F0.n 5 (by decide)).trans h5
    replace h14 := (F0.n 14 (by decide)).trans h14
    replace h15 := (F0.n 15 (by decide)).trans h15
    clear h17
    have h6 := F0.s
    clear F0
    refine wp_seq ?_
    refine wp_region (show wpOps _ _ _ [0, 1] _ _ from ?_)
    refine opL 0 18 (v := .int .u8 what) (w' := w) (by kernel_rfl) (by rw [hs]; decide) ?z127 ?z128
    case z127 => (intro o ho; obtain rfl := Option.some.inj ho; exact ⟨rfl, k_move rfl (ev_tmp h1)⟩)
    case z128 =>
    intro a F0
    replace hs := F0.z.trans hs
    replace hd := F0.e.trans hd
    replace h1 := (F0.n 1 (by decide)).trans h1
    replace h5 := (F0.n 5 (by decide)).trans h5
    replace h14 := (F0.n 14 (by decide)).trans h14
    replace h15 := (F0.n 15 (by decide)).trans h15
    replace h6 := (F0.n 6 (by decide)).trans h6
    have h18 := F0.s
    clear F0
    refine opL 1 19 (v := .int .u8 1) (w' := w) (by kernel_rfl) (by rw [hs]; decide) ?z129 ?z130
    case z129 => (intro o ho; obtain rfl := Option.some.inj ho; exact ⟨rfl, o_remB rfl (ev_tmp h18) rfl (by decide) hk⟩)
    case z130 =>
    intro a F0
    replace hs := F0.z.trans hs
    replace hd := F0.e.trans hd
    replace h1 := (F0.n 1 (by decide)).trans h1
    replace h5 := (F0.n 5 (by decide)).trans h5
    replace h14 := (F0.n 14 (by decide)).trans h14
    replace h15 := (F0.n 15 (by decide)).trans h15
    replace h6 := (F0.n 6 (by decide)).trans h6
    clear h18
    have h19 := F0.s
    clear F0
    refine wp_block ?_
    refine wp_seq ?_
    refine wp_region (show wpOps _ _ _ [0, 1] _ _ from ?_)
    refine opL 0 28 (v := .bool false) (w' := w) (by kernel_rfl) (by rw [hs]; decide) ?z131 ?z132
    case z131 => (intro o ho; obtain rfl := Option.some.inj ho; exact ⟨rfl, o_eqB rfl (ev_tmp h19) rfl (by decide)⟩)
    case z132 =>
    intro a F0
    replace hs := F0.z.trans hs
    replace hd := F0.e.trans hd
    replace h1 := (F0.n 1 (by decide)).trans h1
    replace h5 := (F0.n 5 (by decide)).trans h5
    replace h14 := (F0.n 14 (by decide)).trans h14
    replace h15 := (F0.n 15 (by decide)).trans h15
    replace h6 := (F0.n 6 (by decide)).trans h6
    replace h19 := (F0.n 19 (by decide)).trans h19
    have h28 := F0.s
    clear F0
    refine opL 1 27 (v := .bool false) (w' := w) (by kernel_rfl) (by rw [hs]; decide) ?z133 ?z134
    case z133 => (intro o ho; obtain rfl := Option.some.inj ho; exact ⟨rfl, k_assign rfl (ev_tmp h28)⟩)
    case z134 =>
    intro a F0
    replace hs := F0.z.trans hs
    replace hd := F0.e.trans hd
    replace h1 := (F0.n 1 (by decide)).trans h1
    replace h5 := (F0.n 5 (by decide)).trans h5
    replace h14 := (F0.n 14 (by decide)).trans h14
    replace h15 := (F0.n 15 (by decide)).trans h15
    replace h6 := (F0.n 6 (by decide)).trans h6
    replace h19 := (F0.n 19 (by decide)).trans h19
    clear h28
    have h27 := F0.s
    clear F0
    refine wp_cond_false (ev_tmp h27) ?_
    clear h27
    refine wp_seq ?_
    refine wp_region (show wpOps _ _ _ [0, 1] _ _ from ?_)
    refine opL 0 46 (v := .bool true) (w' := w) (by kernel_rfl) (by rw [hs]; decide) ?z135 ?z136
    case z135 => (intro o ho; obtain rfl := Option.some.inj ho; exact ⟨rfl, o_eqB rfl (ev_tmp h19) rfl (by decide)⟩)
    case z136 =>
    intro a F0
    replace hs := F0.z.trans hs
    replace hd := F0.e.trans hd
    replace h1 := (F0.n 1 (by decide)).trans h1
    replace h5 := (F0.n 5 (by decide)).trans h5
    replace h14 := (F0.n 14 (by decide)).trans h14
    replace h15 := (F0.n 15 (by decide)).trans h15
    replace h6 := (F0.n 6 (by decide)).trans h6
    replace h19 := (F0.n 19 (by decide)).trans h19
    have h46 := F0.s
    clear F0
    refine opL 1 45 (v := .bool true) (w' := w) (by kernel_rfl) (by rw [hs]; decide) ?z137 ?z138
    case z137 => (intro o ho; obtain rfl := Option.some.inj ho; exact ⟨rfl, k_assign rfl (ev_tmp h46)⟩)
    case z138 =>
    intro a F0
    replace hs := F0.z.trans hs
    replace hd := F0.e.trans hd
    replace h1 := (F0.n 1 (by decide)).trans h1
    replace h5 := (F0.n 5 (by decide)).trans h5
    replace h14 := (F0.n 14 (by decide)).trans h14
    replace h15 := (F0.n 15 (by decide)).trans h15
    replace h6 := (F0.n 6 (by decide)).trans h6
    replace h19 := (F0.n 19 (by decide)).trans h19
    clear h46
    have h45 := F0.s
    clear F0
    refine wp_cond_true (ev_tmp h45) ?_
    clear h45
    refine wp_region (show wpOps _ _ _ [0, 1, 2, 3, 4, 5, 6, 7, 8, 9, 10, 11] _ _ from ?_)
    refine opL 0 47 (v := .pointer (some ⟨b, 6, none⟩)) (w' := w) (by kernel_rfl) (by rw [hs]; decide) ?z139 ?z140
    case z139 => (intro o ho; obtain rfl := Option.some.inj ho; exact ⟨rfl, k_field6 rfl (ev_tmp h5)⟩)
    case z140 =>
    intro a F0
    replace hs := F0.z.trans hs
    replace hd := F0.e.trans hd
    replace h1 := (F0.n 1 (by decide)).trans h1
    replace h5 := (F0.n 5 (by decide)).trans h5
    replace h14 := (F0.n 14 (by decide)).trans h14
    replace h15 := (F0.n 15 (by decide)).trans h15
    replace h6 := (F0.n 6 (by decide)).trans h6
    replace h19 := (F0.n 19 (by decide)).trans h19
    have h47 := F0.s
    clear F0
    refine opL 1 48 (v := .slice A L.length cap) (w' := w) (by kernel_rfl) (by rw [hs]; decide) ?z141 ?z142
    case z141 => (intro o ho; obtain rfl := Option.some.inj ho; exact ⟨rfl, k_loadW rfl (ev_tmp h47) (hB.cell 6)⟩)
    case z142 =>
    intro a F0
    replace hs := F0.z.trans hs
    replace hd := F0.e.trans hd
    replace h1 := (F0.n 1 (by decide)).trans h1
    replace h5 := (F0.n 5 (by decide)).trans h5
    replace h14 := (F0.n 14 (by decide)).trans h14
    replace h15 := (F0.n 15 (by decide)).trans h15
    replace h6 := (F0.n 6 (by decide)).trans h6
    replace h19 := (F0.n 19 (by decide)).trans h19
    clear h47
    have h48 := F0.s
    clear F0
    refine opL 2 49 (v := .int .i64 i) (w' := w) (by kernel_rfl) (by rw [hs]; decide) ?z143 ?z144
    case z143 => (intro o ho; obtain rfl := Option.some.inj ho; exact ⟨rfl, k_move rfl (ev_tmp h6)⟩)
    case z144 =>
    intro a F0
    replace hs := F0.z.trans hs
    replace hd := F0.e.trans hd
    replace h1 := (F0.n 1 (by decide)).trans h1
    replace h5 := (F0.n 5 (by decide)).trans h5
    replace h14 := (F0.n 14 (by decide)).trans h14
    replace h15 := (F0.n 15 (by decide)).trans h15
    replace h6 := (F0.n 6 (by decide)).trans h6
    replace h19 := (F0.n 19 (by decide)).trans h19
    replace h48 := (F0.n 48 (by decide)).trans h48
    have h49 := F0.s
    clear F0
    refine opL 3 50 (v := .int .i64 (i / 7)) (w' := w) (by kernel_rfl) (by rw [hs]; decide) ?z145 ?z146
    case z145 => (intro o ho; obtain rfl := Option.some.inj ho; exact ⟨rfl, o_quoI rfl (ev_tmp h49) rfl (by decide) (wq i (by omega) (by omega))⟩)
    case z146 =>
    intro a F0
    replace hs := F0.z.trans hs
    replace hd := F0.e.trans hd
    replace h1 := (F0.n 1 (by decide)).trans h1
    replace h5 := (F0.n 5 (by decide)).trans h5
    replace h14 := (F0.n 14 (by decide)).trans h14
    replace h15 := (F0.n 15 (by decide)).trans h15
    replace h6 := (F0.n 6 (by decide)).trans h6
    replace h19 := (F0.n 19 (by decide)).trans h19
    replace h48 := (F0.n 48 (by decide)).trans h48
    clear h49
    have h50 := F0.s
    clear F0
    refine opL 4 51 (v := .int .i64 (1 + i / 7)) (w' := w) (by kernel_rfl) (by rw [hs]; decide) ?z147 ?z148
    case z147 => (intro o ho; obtain rfl := Option.some.inj ho; exact ⟨rfl, o_addI rfl rfl (ev_tmp h50) (wrap_small (by omega) (by omega))⟩)
    case z148 =>
    intro a F0
    replace hs := F0.z.trans hs
    replace hd := F0.e.trans hd
    replace h1 := (F0.n 1 (by decide)).trans h1
    replace h5 := (F0.n 5 (by decide)).trans h5
    replace h14 := (F0.n 14 (by decide)).trans h14
    replace h15 := (F0.n 15 (by decide)).trans h15
    replace h6 := (F0.n 6 (by decide)).trans h6
    replace h19 := (F0.n 19 (by decide)).trans h19
    replace h48 := (F0.n 48 (by decide)).trans h48
    clear h50
    have h51 := F0.s
    clear F0
    refine opL 5 52 (v := .int .i64 i) (w' := w) (by kernel_rfl) (by rw [hs]; decide) ?z149 ?z150
    case z149 => (intro o ho; obtain rfl := Option.some.inj ho; exact ⟨rfl, k_move rfl (ev_tmp h6)⟩)
    case z150 =>
    intro a F0
    replace hs := F0.z.trans hs
    replace hd := F0.e.trans hd
    replace h1 := (F0.n 1 (by decide)).trans h1
    replace h5 := (F0.n 5 (by decide)).trans h5
    replace h14 := (F0.n 14 (by decide)).trans h14
    replace h15 := (F0.n 15 (by decide)).trans h15
    replace h6 := (F0.n 6 (by decide)).trans h6
    replace h19 := (F0.n 19 (by decide)).trans h19
    replace h48 := (F0.n 48 (by decide)).trans h48
    replace h51 := (F0.n 51 (by decide)).trans h51
    have h52 := F0.s
    clear F0
    refine opL 6 53 (v := .int .i64 (i % 7)) (w' := w) (by kernel_rfl) (by rw [hs]; decide) ?z151 ?z152
    case z151 => (intro o ho; obtain rfl := Option.some.inj ho; exact ⟨rfl, o_remI rfl (ev_tmp h52) rfl (by decide) (Int.tmod_eq_emod_of_nonneg (by omega))⟩)
    case z152 =>
    intro a F0
    replace hs := F0.z.trans hs
    replace hd := F0.e.trans hd
    replace h1 := (F0.n 1 (by decide)).trans h1
    replace h5 := (F0.n 5 (by decide)).trans h5
    replace h14 := (F0.n 14 (by decide)).trans h14
    replace h15 := (F0.n 15 (by decide)).trans h15
    replace h6 := (F0.n 6 (by decide)).trans h6
    replace h19 := (F0.n 19 (by decide)).trans h19
    replace h48 := (F0.n 48 (by decide)).trans h48
    replace h51 := (F0.n 51 (by decide)).trans h51
    clear h52
    have h53 := F0.s
    clear F0
    refine opL 7 54 (v := .agg #[.int .i64 (1 + i / 7), .int .i64 (i % 7)]) (w' := w) (by kernel_rfl) (by rw [hs]; decide) ?z153 ?z154
    case z153 => (intro o ho; obtain rfl := Option.some.inj ho; exact ⟨rfl, k_buildN rfl (ev_tmp h51) (ev_tmp h53)⟩)
    case z154 =>
    intro a F0
    replace hs := F0.z.trans hs
    replace hd := F0.e.trans hd
    replace h1 := (F0.n 1 (by decide)).trans h1
    replace h5 := (F0.n 5 (by decide)).trans h5
    replace h14 := (F0.n 14 (by decide)).trans h14
    replace h15 := (F0.n 15 (by decide)).trans h15
    replace h6 := (F0.n 6 (by decide)).trans h6
    replace h19 := (F0.n 19 (by decide)).trans h19
    replace h48 := (F0.n 48 (by decide)).trans h48
    clear h51
    clear h53
    have h54 := F0.s
    clear F0
    refine opL 8 55 (v := .slice (some ⟨w.heap.size, 0, none⟩) 1 1) (w' := (w.alloc (.cells #[.int .i64 (1 + i / 7), .int .i64 (i % 7)] 31))) (by kernel_rfl) (by rw [hs]; decide) ?z155 ?z156
    case z155 => (intro o ho; obtain rfl := Option.some.inj ho; exact ⟨rfl, k_sliceN rfl (ev_tmp h54)⟩)
    case z156 =>
    intro a F0
    replace hs := F0.z.trans hs
    replace hd := F0.e.trans hd
    replace h1 := (F0.n 1 (by decide)).trans h1
    replace h5 := (F0.n 5 (by decide)).trans h5
    replace h14 := (F0.n 14 (by decide)).trans h14
    replace h15 := (F0.n 15 (by decide)).trans h15
    replace h6 := (F0.n 6 (by decide)).trans h6
    replace h19 := (F0.n 19 (by decide)).trans h19
    replace h48 := (F0.n 48 (by decide)).trans h48
    clear h54
    have h55 := F0.s
    clear F0
    obtain ⟨w1, hw1⟩ : ∃ w1, w1 = w.alloc (.cells #[.int .i64 (1 + i / 7), .int .i64 (i % 7)] 31) := ⟨_, rfl⟩
    rw [← hw1]
    have q1 : Blk w1 w.heap.size 31 #[.int .i64 (1 + i / 7), .int .i64 (i % 7)] := by rw [hw1]; exact Blk.alloc _ _ _
    have l1 : Below w.heap.size w w1 := by rw [hw1]; exact (Below.refl _ _).alloc (Nat.le_refl _) _
    have hO1 := hO.exc (Exc.of (b := w.heap.size) l1) (fun g hg => by have := (hO.lt g hg).2; omega)
    have hB1 := hB.below l1 hB.lt
    have hM1 := hM.below l1 hM.lt
    have hl1 : base ≤ w1.heap.size := Nat.le_trans hl l1.size
    have hx1 := (q1.cell 0)
    have hy1 := (q1.cell 1)
    clear hw1
    obtain ⟨v', w2, hr, hO2, hE2⟩ := append_nth (c := 1) hO1 hx1 hy1 (by omega) hl1
    obtain ⟨A', cap', rfl, -, -, -⟩ := hO2.nths
    have hB2 := hB1.exc (hE2 base base (Nat.le_refl _)) (by omega) (by omega)
    have hM2 := hM1.exc (hE2 base base (Nat.le_refl _)) (by omega) (by omega)
    refine opL 9 56 (v := .slice A' (L ++ [(1 + i / 7, i % 7)]).length cap') (w' := w2) (by kernel_rfl) (by rw [hs]; decide) ?z157 ?z158
    case z157 => (intro o ho; obtain rfl := Option.some.inj ho; exact ⟨rfl, k_append rfl rfl (ev_tmp h48) (ev_tmp h55) hr⟩)
    case z158 =>
    intro a F0
    replace hs := F0.z.trans hs
    replace hd := F0.e.trans hd
    replace h1 := (F0.n 1 (by decide)).trans h1
    replace h5 := (F0.n 5 (by decide)).trans h5
    replace h14 := (F0.n 14 (by decide)).trans h14
    replace h15 := (F0.n 15 (by decide)).trans h15
    replace h6 := (F0.n 6 (by decide)).trans h6
    replace h19 := (F0.n 19 (by decide)).trans h19
    clear h48
    clear h55
    have h56 := F0.s
    clear F0
    refine opL 10 57 (v := .pointer (some ⟨b, 6, none⟩)) (w' := w2) (by kernel_rfl) (by rw [hs]; decide) ?z159 ?z160
    case z159 => (intro o ho; obtain rfl := Option.some.inj ho; exact ⟨rfl, k_field6 rfl (ev_tmp h5)⟩)
    case z160 =>
    intro a F0
    replace hs := F0.z.trans hs
    replace hd := F0.e.trans hd
    replace h1 := (F0.n 1 (by decide)).trans h1
    replace h5 := (F0.n 5 (by decide)).trans h5
    replace h14 := (F0.n 14 (by decide)).trans h14
    replace h15 := (F0.n 15 (by decide)).trans h15
    replace h6 := (F0.n 6 (by decide)).trans h6
    replace h19 := (F0.n 19 (by decide)).trans h19
    replace h56 := (F0.n 56 (by decide)).trans h56
    have h57 := F0.s
    clear F0
    refine opL_store 11 (w' := (w2.setCell ⟨b, 6, none⟩ (.slice A' (L ++ [(1 + i / 7, i % 7)]).length cap'))) (by kernel_rfl) ?z161 ?z162
    case z161 => (intro o ho; obtain rfl := Option.some.inj ho; exact ⟨rfl, k_storeW rfl (ev_tmp h57) (ev_tmp h56) hB2 (by simp)⟩)
    case z162 =>
    clear h56
    clear h57
    obtain ⟨w3, hw3⟩ : ∃ w3, w3 = w2.setCell ⟨b, 6, none⟩ (.slice A' (L ++ [(1 + i / 7, i % 7)]).length cap') := ⟨_, rfl⟩
    rw [← hw3]
    have hB3 : Blk w3 b 38 #[.int .i64 3, .int .i64 1, .int .i64 0, .int .i64 0, .slice (some ⟨m, 0, none⟩) 1 1, .slice none 0 0, .slice A' (L ++ [(1 + i / 7, i % 7)]).length cap', .slice none 0 0] := by rw [hw3]; exact hB2.set 6 _
    have hE3 : ∀ B, Exc B b w2 w3 := by rw [hw3]; exact exc_set w2 b 6 _
    refine wp_region (show wpOps _ _ _ [0, 1] _ _ from ?_)
    refine opL 0 58 (v := .int .i64 (i + 1)) (w' := w3) (by kernel_rfl) (by rw [hs]; decide) ?z163 ?z164
    case z163 => (intro o ho; obtain rfl := Option.some.inj ho; exact ⟨rfl, o_addI rfl (ev_tmp h15) rfl (wrap_small (by omega) (by omega))⟩)
    case z164 =>
    intro a F0
    replace hs := F0.z.trans hs
    replace hd := F0.e.trans hd
    replace h1 := (F0.n 1 (by decide)).trans h1
    replace h5 := (F0.n 5 (by decide)).trans h5
    replace h14 := (F0.n 14 (by decide)).trans h14
    replace h15 := (F0.n 15 (by decide)).trans h15
    replace h6 := (F0.n 6 (by decide)).trans h6
    replace h19 := (F0.n 19 (by decide)).trans h19
    have h58 := F0.s
    clear F0
    refine opL 1 15 (v := .int .i64 (i + 1)) (w' := w3) (by kernel_rfl) (by rw [hs]; decide) ?z165 ?z166
    case z165 => (intro o ho; obtain rfl := Option.some.inj ho; exact ⟨rfl, k_move rfl (ev_tmp h58)⟩)
    case z166 =>
    intro a F0
    replace hs := F0.z.trans hs
    replace hd := F0.e.trans hd
    replace h1 := (F0.n 1 (by decide)).trans h1
    replace h5 := (F0.n 5 (by decide)).trans h5
    replace h14 := (F0.n 14 (by decide)).trans h14
    clear h15
    replace h6 := (F0.n 6 (by decide)).trans h6
    replace h19 := (F0.n 19 (by decide)).trans h19
    clear h58
    have h15 := F0.s
    clear F0
    refine ⟨⟨i + 1, A', cap', L ++ [(1 + i / 7, i % 7)], ⟨hd, hs, h1, h5, h14, h15, by omega, by omega, hB3, (hM2.exc (hE3 (w2.heap.size)) hM2.lt hmb), hO2.exc (hE3 w2.heap.size) (fun g hg => ⟨(hO2.lt g hg).2, by have := (hO2.lt g hg).1; omega⟩), by simp; omega,
      (hE.trans (Exc.of (l1.mono hl))).trans ((hE2 base b (Nat.le_refl _)).trans (hE3 base)), Nat.le_trans hl1 (Nat.le_trans (hE2 0 0 (Nat.zero_le _)).size (hE3 0).size)⟩⟩, ?_⟩
    rw [h15]
    show (N - (i + 1)).toNat < (N - i).toNat
    omega
  · have hend := hend i A cap L J hlt
    clear J
    refine wp_seq ?_
    refine wp_region (show wpOps _ _ _ [0] _ _ from ?_)
    refine opL 0 16 (v := .bool false) (w' := w) (by kernel_rfl) (by rw [hs]; decide) ?z167 ?z168
    case z167 => (intro o ho; obtain rfl := Option.some.inj ho; exact ⟨rfl, o_ltI rfl (ev_tmp h15) (ev_tmp h14) (decide_eq_false hlt)⟩)
    case z168 =>
    intro a F0
    replace hs := F0.z.trans hs
    replace hd := F0.e.trans hd
    replace h1 := (F0.n 1 (by decide)).trans h1
    replace h5 := (F0.n 5 (by decide)).trans h5
    replace h14 := (F0.n 14 (by decide)).trans h14
    replace h15 := (F0.n 15 (by decide)).trans h15
    have h16 := F0.s
    clear F0
    refine wp_seq ?_
    refine wp_cond_false (ev_tmp h16) ?_
    clear h16
    refine wp_exit ?_
    exact hend a hd hs h5

/-- what holds ahead of each round -/
structure LI2 (w0 : World) (b m base : Nat) (what N i : Int) (A : Option Addr) (cap : Nat) (L : List Int) (a : Act) (w : World) : Prop where
  d : a.defers = []
  z : a.tmps.size = 64
  s1 : a.tmps.getD 1 undef = .int .u8 what
  s5 : a.tmps.getD 5 undef = .pointer (some ⟨b, 0, none⟩)
  s14 : a.tmps.getD 14 undef = .int .i64 N
  s15 : a.tmps.getD 15 undef = .int .i64 i
  i0 : 0 ≤ i
  iN : i ≤ N
  B : Blk w b 38 #[.int .i64 3, .int .i64 1, .int .i64 0, .int .i64 0, .slice (some ⟨m, 0, none⟩) 1 1, .slice none 0 0, .slice none 0 0, .slice A L.length cap]
  M : Blk w m 3 #[.int .i64 1]
  o : OwnI w base (.slice A L.length cap) L
  ln : L.length ≤ i.toNat
  e : Exc base b w0 w
  lt : base ≤ w.heap.size
def LInv2 (w0 : World) (b m base : Nat) (what N : Int) (a : Act) (w : World) : Prop := ∃ i A cap L, LI2 w0 b m base what N i A cap L a w

set_option maxRecDepth 100000 in
set_option maxHeartbeats 1000000 in
theorem long_round2 (w0 : World) (b m base : Nat) (what N : Int) (hb : b < base) (hm : m < base) (hmb : m ≠ b) (hN : N ≤ 100) (hk : what.tmod 3 = 2) (a : Act) (w : World) (Q : Exit → Act → World → Prop)
    (hI : LInv2 w0 b m base what N a w) (hend : ∀ i A cap L, LI2 w0 b m base what N i A cap L a w → ¬ i < N → ∀ a' : Act, a'.defers = [] → a'.tmps.size = 64 → a'.tmps.getD 5 undef = .pointer (some ⟨b, 0, none⟩) → Q (.exit 0) a' w) :
    longRound.wp Tryd.prog (Exit.then (fun a' w' => LInv2 w0 b m base what N a' w' ∧ (N - intOf (a'.tmps.getD 15 undef)).toNat < (N - intOf (a.tmps.getD 15 undef)).toNat) Q) a w := by
  obtain ⟨i, A, cap, L, J⟩ := hI
  have hd := J.d; have hs := J.z; have h1 := J.s1; have h5 := J.s5; have h14 := J.s14; have h15 := J.s15
  have hi0 := J.i0; have hiN := J.iN; have hB := J.B; have hM := J.M; have hO := J.o; have hln := J.ln; have hE := J.e; have hl := J.lt
  have k15 : (N - intOf (a.tmps.getD 15 undef)).toNat = (N - i).toNat := by rw [h15]; rfl
  rw [k15]
  clear k15
  unfold longRound
  conv => arg 2; whnf
  by_cases hlt : i < N
  · clear hend J
    refine wp_seq ?_
    refine wp_region (show wpOps _ _ _ [0] _ _ from ?_)
    refine opL 0 16 (v := .bool true) (w' := w) (by kernel_rfl) (by rw [hs]; decide) ?z169 ?z170
    case z169 => (intro o ho; obtain rfl := Option.some.inj ho; exact ⟨rfl, o_ltI rfl (ev_tmp h15) (ev_tmp h14) (decide_eq_true hlt)⟩)
    case z170 =>
    intro a F0
    replace hs := F0.z.trans hs
    replace hd := F0.e.trans hd
    replace h1 := (F0.n 1 (by decide)).trans h1
    replace h5 := (F0.n 5 (by decide)).trans h5
    replace h14 := (F0.n 14 (by decide)).trans h14
    replace h15 := (F0.n 15 (by decide)).trans h15
    have h16 := F0.s
    clear F0
    refine wp_seq ?_
    refine wp_cond_true (ev_tmp h16) ?_
    clear h16
    refine wp_skip ?_
    refine wp_seq ?_
    refine wp_block ?_
    refine wp_seq ?_
    refine wp_region (show wpOps _ _ _ [0, 1] _ _ from ?_)
    refine opL 0 17 (v := .int .i64 i) (w' := w) (by kernel_rfl) (by rw [hs]; decide) ?z171 ?z172
    case z171 => (intro o ho; obtain rfl := Option.some.inj ho; exact ⟨rfl, k_move rfl (ev_tmp h15)⟩)
    case z172 =>
    intro a F0
    replace hs := F0.z.trans hs
    replace hd := F0.e.trans hd
    replace h1 := (F0.n 1 (by decide)).trans h1
    replace h5 := (F0.n 5 (by decide)).trans h5
    replace h14 := (F0.n 14 (by decide)).trans h14
    replace h15 := (F0.n 15 (by decide)).trans h15
    have h17 := F0.s
    clear F0
    refine opL 1 6 (v := .int .i64 i) (w' := w) (by kernel_rfl) (by rw [hs]; decide) ?z173 ?z174
    case z173 => (intro o ho; obtain rfl := Option.some.inj ho; exact ⟨rfl, k_assign rfl (ev_tmp h17)⟩)
    case z174 =>
    intro a F0
    replace hs := F0.z.trans hs
    replace hd := F0.e.trans hd
    replace h1 := (F0.n 1 (by decide)).trans h1
    replace h5 := (F0.n 5 (by decide)).trans h5
    replace h14 := (F0.n 14 (by decide)).trans h14
    replace h15 := (F0.n 15 (by decide)).trans h15
    clear h17
    have h6 := F0.s
    clear F0
    refine wp_seq ?_
    refine wp_region (show wpOps _ _ _ [0, 1] _ _ from ?_)
    refine opL 0 18 (v := .int .u8 what) (w' := w) (by kernel_rfl) (by rw [hs]; decide) ?z175 ?z176
    case z175 => (intro o ho; obtain rfl := Option.some.inj ho; exact ⟨rfl, k_move rfl (ev_tmp h1)⟩)
    case z176 =>
    intro a F0
    replace hs := F0.z.trans hs
    replace hd := F0.e.trans hd
    replace h1 := (F0.n 1 (by decide)).trans h1
    replace h5 := (F0.n 5 (by decide)).trans h5
    replace h14 := (F0.n 14 (by decide)).trans h14
    replace h15 := (F0.n 15 (by decide)).trans h15
    replace h6 := (F0.n 6 (by decide)).trans h6
    have h18 := F0.s
    clear F0
    refine opL 1 19 (v := .int .u8 2) (w' := w) (by kernel_rfl) (by rw [hs]; decide) ?z177 ?z178
    case z177 => (intro o ho; obtain rfl := Option.some.inj ho; exact ⟨rfl, o_remB rfl (ev_tmp h18) rfl (by decide) hk⟩)
    case z178 =>
    intro a F0
    replace hs := F0.z.trans hs
    replace hd := F0.e.trans hd
    replace h1 := (F0.n 1 (by decide)).trans h1
    replace h5 := (F0.n 5 (by decide)).trans h5
    replace h14 := (F0.n 14 (by decide)).trans h14
    replace h15 := (F0.n 15 (by decide)).trans h15
    replace h6 := (F0.n 6 (by decide)).trans h6
    clear h18
    have h19 := F0.s
    clear F0
    refine wp_block ?_
    refine wp_seq ?_
    refine wp_region (show wpOps _ _ _ [0, 1] _ _ from ?_)
    refine opL 0 28 (v := .bool false) (w' := w) (by kernel_rfl) (by rw [hs]; decide) ?z179 ?z180
    case z179 => (intro o ho; obtain rfl := Option.some.inj ho; exact ⟨rfl, o_eqB rfl (ev_tmp h19) rfl (by decide)⟩)
    case z180 =>
    intro a F0
    replace hs := F0.z.trans hs
    replace hd := F0.e.trans hd
    replace h1 := (F0.n 1 (by decide)).trans h1
    replace h5 := (F0.n 5 (by decide)).trans h5
    replace h14 := (F0.n 14 (by decide)).trans h14
    replace h15 := (F0.n 15 (by decide)).trans h15
    replace h6 := (F0.n 6 (by decide)).trans h6
    replace h19 := (F0.n 19 (by decide)).trans h19
    have h28 := F0.s
    clear F0
    refine opL 1 27 (v := .bool false) (w' := w) (by kernel_rfl) (by rw [hs]; decide) ?z181 ?z182
    case z181 => (intro o ho; obtain rfl := Option.some.inj ho; exact ⟨rfl, k_assign rfl (ev_tmp h28)⟩)
    case z182 =>
    intro a F0
    replace hs := F0.z.trans hs
    replace hd := F0.e.trans hd
    replace h1 := (F0.n 1 (by decide)).trans h1
    replace h5 := (F0.n 5 (by decide)).trans h5
    replace h14 := (F0.n 14 (by decide)).trans h14
    replace h15 := (F0.n 15 (by decide)).trans h15
    replace h6 := (F0.n 6 (by decide)).trans h6
    replace h19 := (F0.n 19 (by decide)).trans h19
    clear h28
    have h27 := F0.s
    clear F0
    refine wp_cond_false (ev_tmp h27) ?_
    clear h27
    refine wp_seq ?_
    refine wp_region (show wpOps _ _ _ [0, 1] _ _ from ?_)
    refine opL 0 46 (v := .bool false) (w' := w) (by kernel_rfl) (by rw [hs]; decide) ?z183 ?z184
    case z183 => (intro o ho; obtain rfl := Option.some.inj ho; exact ⟨rfl, o_eqB rfl (ev_tmp h19) rfl (by decide)⟩)
    case z184 =>
    intro a F0
    replace hs := F0.z.trans hs
    replace hd := F0.e.trans hd
    replace h1 := (F0.n 1 (by decide)).trans h1
    replace h5 := (F0.n 5 (by decide)).trans h5
    replace h14 := (F0.n 14 (by decide)).trans h14
    replace h15 := (F0.n 15 (by decide)).trans h15
    replace h6 := (F0.n 6 (by decide)).trans h6
    replace h19 := (F0.n 19 (by decide)).trans h19
    have h46 := F0.s
    clear F0
    refine opL 1 45 (v := .bool false) (w' := w) (by kernel_rfl) (by rw [hs]; decide) ?z185 ?z186
    case z185 => (intro o ho; obtain rfl := Option.some.inj ho; exact ⟨rfl, k_assign rfl (ev_tmp h46)⟩)
    case z186 =>
    intro a F0
    replace hs := F0.z.trans hs
    replace hd := F0.e.trans hd
    replace h1 := (F0.n 1 (by decide)).trans h1
    replace h5 := (F0.n 5 (by decide)).trans h5
    replace h14 := (F0.n 14 (by decide)).trans h14
    replace h15 := (F0.n 15 (by decide)).trans h15
    replace h6 := (F0.n 6 (by decide)).trans h6
    replace h19 := (F0.n 19 (by decide)).trans h19
    clear h46
    have h45 := F0.s
    clear F0
    refine wp_cond_false (ev_tmp h45) ?_
    clear h45
    refine wp_region (show wpOps _ _ _ [0, 1, 2, 3, 4, 5, 6, 7] _ _ from ?_)
    refine opL 0 20 (v := .pointer (some ⟨b, 7, none⟩)) (w' := w) (by kernel_rfl) (by rw [hs]; decide) ?z187 ?z188
    case z187 => (intro o ho; obtain rfl := Option.some.inj ho; exact ⟨rfl, k_field7 rfl (ev_tmp h5)⟩)
    case z188 =>
    intro a F0
    replace hs := F0.z.trans hs
    replace hd := F0.e.trans hd
    replace h1 := (F0.n 1 (by decide)).trans h1
    replace h5 := (F0.n 5 (by decide)).trans h5
    replace h14 := (F0.n 14 (by decide)).trans h14
    replace h15 := (F0.n 15 (by decide)).trans h15
    replace h6 := (F0.n 6 (by decide)).trans h6
    replace h19 := (F0.n 19 (by decide)).trans h19
    have h20 := F0.s
    clear F0
    refine opL 1 21 (v := .slice A L.length cap) (w' := w) (by kernel_rfl) (by rw [hs]; decide) ?z189 ?z190
    case z189 => (intro o ho; obtain rfl := Option.some.inj ho; exact ⟨rfl, k_loadL rfl (ev_tmp h20) (hB.cell 7)⟩)
    case z190 =>
    intro a F0
    replace hs := F0.z.trans hs
    replace hd := F0.e.trans hd
    replace h1 := (F0.n 1 (by decide)).trans h1
    replace h5 := (F0.n 5 (by decide)).trans h5
    replace h14 := (F0.n 14 (by decide)).trans h14
    replace h15 := (F0.n 15 (by decide)).trans h15
    replace h6 := (F0.n 6 (by decide)).trans h6
    replace h19 := (F0.n 19 (by decide)).trans h19
    clear h20
    have h21 := F0.s
    clear F0
    refine opL 2 22 (v := .int .i64 i) (w' := w) (by kernel_rfl) (by rw [hs]; decide) ?z191 ?z192
    case z191 => (intro o ho; obtain rfl := Option.some.inj ho; exact ⟨rfl, k_move rfl (ev_tmp h6)⟩)
    case z192 =>
    intro a F0
    replace hs := F0.z.trans hs
    replace hd := F0.e.trans hd
    replace h1 := (F0.n 1 (by decide)).trans h1
    replace h5 := (F0.n 5 (by decide)).trans h5
    replace h14 := (F0.n 14 (by decide)).trans h14
    replace h15 := (F0.n 15 (by decide)).trans h15
    replace h6 := (F0.n 6 (by decide)).trans h6
    replace h19 := (F0.n 19 (by decide)).trans h19
    replace h21 := (F0.n 21 (by decide)).trans h21
    have h22 := F0.s
    clear F0
    refine opL 3 23 (v := .int .i64 (i + 1)) (w' := w) (by kernel_rfl) (by rw [hs]; decide) ?z193 ?z194
    case z193 => (intro o ho; obtain rfl := Option.some.inj ho; exact ⟨rfl, o_addI rfl (ev_tmp h22) rfl (wrap_small (by omega) (by omega))⟩)
    case z194 =>
    intro a F0
    replace hs := F0.z.trans hs
    replace hd := F0.e.trans hd
    replace h1 := (F0.n 1 (by decide)).trans h1
    replace h5 := (F0.n 5 (by decide)).trans h5
    replace h14 := (F0.n 14 (by decide)).trans h14
    replace h15 := (F0.n 15 (by decide)).trans h15
    replace h6 := (F0.n 6 (by decide)).trans h6
    replace h19 := (F0.n 19 (by decide)).trans h19
    replace h21 := (F0.n 21 (by decide)).trans h21
    clear h22
    have h23 := F0.s
    clear F0
    refine opL 4 24 (v := .slice (some ⟨w.heap.size, 0, none⟩) 1 1) (w' := (w.alloc (.cells #[.int .i64 (i + 1)] 3))) (by kernel_rfl) (by rw [hs]; decide) ?z195 ?z196
    case z195 => (intro o ho; obtain rfl := Option.some.inj ho; exact ⟨rfl, k_slice1 rfl (ev_tmp h23)⟩)
    case z196 =>
    intro a F0
    replace hs := F0.z.trans hs
    replace hd := F0.e.trans hd
    replace h1 := (F0.n 1 (by decide)).trans h1
    replace h5 := (F0.n 5 (by decide)).trans h5
    replace h14 := (F0.n 14 (by decide)).trans h14
    replace h15 := (F0.n 15 (by decide)).trans h15
    replace h6 := (F0.n 6 (by decide)).trans h6
    replace h19 := (F0.n 19 (by decide)).trans h19
    replace h21 := (F0.n 21 (by decide)).trans h21
    clear h23
    have h24 := F0.s
    clear F0
    obtain ⟨w1, hw1⟩ : ∃ w1, w1 = w.alloc (.cells #[.int .i64 (i + 1)] 3) := ⟨_, rfl⟩
    rw [← hw1]
    have q1 : Blk w1 w.heap.size 3 #[.int .i64 (i + 1)] := by rw [hw1]; exact Blk.alloc _ _ _
    have l1 : Below w.heap.size w w1 := by rw [hw1]; exact (Below.refl _ _).alloc (Nat.le_refl _) _
    have hO1 := hO.exc (Exc.of (b := w.heap.size) l1) (fun g hg => by have := (hO.lt g hg).2; omega)
    have hB1 := hB.below l1 hB.lt
    have hM1 := hM.below l1 hM.lt
    have hl1 : base ≤ w1.heap.size := Nat.le_trans hl l1.size
    have hx1 := (q1.cell 0)
    clear hw1
    obtain ⟨v', w2, hr, hO2, hE2⟩ := append_int (c := 1) hO1 hx1 (by omega) hl1
    obtain ⟨A', cap', rfl, -, -, -⟩ := hO2.ints
    have hB2 := hB1.exc (hE2 base base (Nat.le_refl _)) (by omega) (by omega)
    have hM2 := hM1.exc (hE2 base base (Nat.le_refl _)) (by omega) (by omega)
    refine opL 5 25 (v := .slice A' (L ++ [i + 1]).length cap') (w' := w2) (by kernel_rfl) (by rw [hs]; decide) ?z197 ?z198
    case z197 => (intro o ho; obtain rfl := Option.some.inj ho; exact ⟨rfl, k_append rfl rfl (ev_tmp h21) (ev_tmp h24) hr⟩)
    case z198 =>
    intro a F0
    replace hs := F0.z.trans hs
    replace hd := F0.e.trans hd
    replace h1 := (F0.n 1 (by decide)).trans h1
    replace h5 := (F0.n 5 (by decide)).trans h5
    replace h14 := (F0.n 14 (by decide)).trans h14
    replace h15 := (F0.n 15 (by decide)).trans h15
    replace h6 := (F0.n 6 (by decide)).trans h6
    replace h19 := (F0.n 19 (by decide)).trans h19
    clear h21
    clear h24
    have h25 := F0.s
    clear F0
    refine opL 6 26 (v := .pointer (some ⟨b, 7, none⟩)) (w' := w2) (by kernel_rfl) (by rw [hs]; decide) ?z199 ?z200
    case z199 => (intro o ho; obtain rfl := Option.some.inj ho; exact ⟨rfl, k_field7 rfl (ev_tmp h5)⟩)
    case z200 =>
    intro a F0
    replace hs := F0.z.trans hs
    replace hd := F0.e.trans hd
    replace h1 := (F0.n 1 (by decide)).trans h1
    replace h5 := (F0.n 5 (by decide)).trans h5
    replace h14 := (F0.n 14 (by decide)).trans h14
    replace h15 := (F0.n 15 (by decide)).trans h15
    replace h6 := (F0.n 6 (by decide)).trans h6
    replace h19 := (F0.n 19 (by decide)).trans h19
    replace h25 := (F0.n 25 (by decide)).trans h25
    have h26 := F0.s
    clear F0
    refine opL_store 7 (w' := (w2.setCell ⟨b, 7, none⟩ (.slice A' (L ++ [i + 1]).length cap'))) (by kernel_rfl) ?z201 ?z202
    case z201 => (intro o ho; obtain rfl := Option.some.inj ho; exact ⟨rfl, k_storeL rfl (ev_tmp h26) (ev_tmp h25) hB2 (by simp)⟩)
    case z202 =>
    clear h25
    clear h26
    obtain ⟨w3, hw3⟩ : ∃ w3, w3 = w2.setCell ⟨b, 7, none⟩ (.slice A' (L ++ [i + 1]).length cap') := ⟨_, rfl⟩
    rw [← hw3]
    have hB3 : Blk w3 b 38 #[.int .i64 3, .int .i64 1, .int .i64 0, .int .i64 0, .slice (some ⟨m, 0, none⟩) 1 1, .slice none 0 0, .slice none 0 0, .slice A' (L ++ [i + 1]).length cap'] := by rw [hw3]; exact hB2.set 7 _
    have hE3 : ∀ B, Exc B b w2 w3 := by rw [hw3]; exact exc_set w2 b 7 _
    refine wp_region (show wpOps _ _ _ [0, 1] _ _ from ?_)
    refine opL 0 58 (v := .int .i64 (i + 1)) (w' := w3) (by kernel_rfl) (by rw [hs]; decide) ?z203 ?z204
    case z203 => (intro o ho; obtain rfl := Option.some.inj ho; exact ⟨rfl, o_addI rfl (ev_tmp h15) rfl (wrap_small (by omega) (by omega))⟩)
    case z204 =>
    intro a F0
    replace hs := F0.z.trans hs
    replace hd := F0.e.trans hd
    replace h1 := (F0.n 1 (by decide)).trans h1
    replace h5 := (F0.n 5 (by decide)).trans h5
    replace h14 := (F0.n 14 (by decide)).trans h14
    replace h15 := (F0.n 15 (by decide)).trans h15
    replace h6 := (F0.n 6 (by decide)).trans h6
    replace h19 := (F0.n 19 (by decide)).trans h19
    have h58 := F0.s
    clear F0
    refine opL 1 15 (v := .int .i64 (i + 1)) (w' := w3) (by kernel_rfl) (by rw [hs]; decide) ?z205 ?z206
    case z205 => (intro o ho; obtain rfl := Option.some.inj ho; exact ⟨rfl, k_move rfl (ev_tmp h58)⟩)
    case z206 =>
    intro a F0
    replace hs := F0.z.trans hs
    replace hd := F0.e.trans hd
    replace h1 := (F0.n 1 (by decide)).trans h1
    replace h5 := (F0.n 5 (by decide)).trans h5
    replace h14 := (F0.n 14 (by decide)).trans h14
    clear h15
    replace h6 := (F0.n 6 (by decide)).trans h6
    replace h19 := (F0.n 19 (by decide)).trans h19
    clear h58
    have h15 := F0.s
    clear F0
    refine ⟨⟨i + 1, A', cap', L ++ [i + 1], ⟨hd, hs, h1, h5, h14, h15, by omega, by omega, hB3, (hM2.exc (hE3 (w2.heap.size)) hM2.lt hmb), hO2.exc (hE3 w2.heap.size) (fun g hg => ⟨(hO2.lt g hg).2, by have := (hO2.lt g hg).1; omega⟩), by simp; omega,
      (hE.trans (Exc.of (l1.mono hl))).trans ((hE2 base b (Nat.le_refl _)).trans (hE3 base)), Nat.le_trans hl1 (Nat.le_trans (hE2 0 0 (Nat.zero_le _)).size (hE3 0).size)⟩⟩, ?_⟩
    rw [h15]
    show (N - (i + 1)).toNat < (N - i).toNat
    omega
  · have hend := hend i A cap L J hlt
    clear J
    refine wp_seq ?_
    refine wp_region (show wpOps _ _ _ [0] _ _ from ?_)
    refine opL 0 16 (v := .bool false) (w' := w) (by kernel_rfl) (by rw [hs]; decide) ?z207 ?z208
    case z207 => (intro o ho; obtain rfl := Option.some.inj ho; exact ⟨rfl, o_ltI rfl (ev_tmp h15) (ev_tmp h14) (decide_eq_false hlt)⟩)
    case z208 =>
    intro a F0
    replace hs := F0.z.trans hs
    replace hd := F0.e.trans hd
    replace h1 := (F0.n 1 (by decide)).trans h1
    replace h5 := (F0.n 5 (by decide)).trans h5
    replace h14 := (F0.n 14 (by decide)).trans h14
    replace h15 := (F0.n 15 (by decide)).trans h15
    have h16 := F0.s
    clear F0
    refine wp_seq ?_
    refine wp_cond_false (ev_tmp h16) ?_
    clear h16
    refine wp_exit ?_
    exact hend a hd hs h5
end Go.Proofs.YtoldjleojnlhiaaDoor
