/-
  The law's Make, whole: what it makes, as a function of its argument.
-/
import Derived.Test.YtnggajehngemmaaGreatDoorMk3
namespace Go.Proofs.YtnggajehngemmaaGreatDoor
open Go.RowKit Go.Sort Go.Shelf Go.Lib
namespace Mk
def iv (I : Int) : Int := if 250 < I then 999 - I.tmod 5 else 1 + I.tmod 6
def cnt (E C : Int) : Int := if E.tmod 4 = 0 then 1 + C.tmod 9999 else 0
def unt (E U : Int) : Int := if E.tmod 4 = 1 then 1 + U.tmod 3652059 else 0
def most (F : Int) : Int := if F.tmod 4 = 2 then 5 else if F.tmod 4 = 3 then 53 else 0
def D (F : Int) (ld : List Int) : List Int := if F.tmod 4 != 1 then few 31 ld else []
def W (F : Int) (lw : List (Int × Int)) : List Wk := weeks (most F) lw
def P (F : Int) (lm ld : List Int) (lw : List (Int × Int)) (lp : List Int) : List Int := if decide (0 < (mon lm).length + (D F ld).length + ((W F lw).map (·.1)).length) then few 366 lp else []
theorem D_len (F : Int) (ld : List Int) : (D F ld).length ≤ ld.length := by
  unfold D; split
  · exact few_len _ _
  · simp
theorem mon_len (l : List Int) : (mon l).length ≤ l.length := by
  unfold mon
  refine Nat.le_trans (Lib.compact_length_le _) ?_
  rw [List.length_mergeSort]
  simp [monOut]
theorem W_len (F : Int) (lw : List (Int × Int)) : ((W F lw).map (·.1)).length ≤ lw.length := by
  unfold W weeks
  rw [List.length_map, List.length_mergeSort]
  have := weekOut_len (most F) lw lw.length (Nat.le_refl _)
  rwa [List.take_length] at this
end Mk
/-- Make's argument: numbers within their kinds, lists in memory -/
structure XIn (w : World) (F I E C U : Int) (AM AD AW AP : Option Addr) (lm ld : List Int) (lw : List (Int × Int)) (lp : List Int) : Prop where
  bF : 0 ≤ F ∧ F ≤ 255
  bI : 0 ≤ I ∧ I ≤ 255
  bE : 0 ≤ E ∧ E ≤ 255
  bC : 0 ≤ C ∧ C ≤ 65535
  bU : 0 ≤ U ∧ U ≤ 4294967295
  m : NumsIn .u8 w AM lm
  d : NumsIn .i8 w AD ld
  k : WksIn w AW lw
  p : NumsIn .i16 w AP lp
  bm : ∀ x ∈ lm, 0 ≤ x ∧ x ≤ 255
  bd : ∀ x ∈ ld, -128 ≤ x ∧ x ≤ 127
  bk : ∀ x ∈ lw, (-128 ≤ x.1 ∧ x.1 ≤ 127) ∧ (0 ≤ x.2 ∧ x.2 ≤ 255)
  bp : ∀ x ∈ lp, -32768 ≤ x ∧ x ≤ 32767
  lm1 : lm.length ≤ 1000
  ld1 : ld.length ≤ 1000
  lw1 : lw.length ≤ 1000
  lp1 : lp.length ≤ 1000
structure MB (w0 : World) (X : Array Value) (w : World) : Prop where
  B1 : Blk w w0.heap.size 29 X
  B2 : Blk w (w0.heap.size + 1) 36 #[.int .i64 0, .int .i64 0, .int .i64 0, .int .i64 0, .slice none 0 0, .slice none 0 0, .slice none 0 0, .slice none 0 0]
  b : Below w0.heap.size w0 w
  sz : w0.heap.size + 3 ≤ w.heap.size
theorem MB.below {w0 w w' : World} {X : Array Value} (h : MB w0 X w) (l : Below w.heap.size w w') : MB w0 X w' :=
  ⟨h.B1.below l h.B1.lt, h.B2.below l h.B2.lt, h.b.trans (l.mono h.b.size), Nat.le_trans h.sz l.size⟩
theorem MB.exc {w0 w w' : World} {X : Array Value} {B b : Nat} (h : MB w0 X w) (e : Exc B b w w') (hB : w0.heap.size + 2 ≤ B) (hb : w0.heap.size + 2 ≤ b) : MB w0 X w' :=
  ⟨h.B1.exc e (by omega) (by omega), h.B2.exc e (by omega) (by omega), h.b.trans ((e.mono (by omega)).below (by omega)), Nat.le_trans h.sz e.size⟩
/-- the frame between statements -/
structure MF (w0 : World) (a : Act) : Prop where
  d : a.defers = []
  z : a.tmps.size = 164
  s1 : a.tmps.getD 1 undef = .pointer (some ⟨w0.heap.size, 0, none⟩)
  s2 : a.tmps.getD 2 undef = .pointer (some ⟨(w0.heap.size + 1), 0, none⟩)
  s3 : a.tmps.getD 3 undef = .pointer (some ⟨(w0.heap.size + 2), 0, none⟩)
structure MS1 (w0 : World) (X rc : Array Value) (a : Act) (w : World) : Prop where
  f : MF w0 a
  mb : MB w0 X w
  B3 : Blk w (w0.heap.size + 2) 36 rc
structure MS2 (w0 : World) (X : Array Value) (x0 x1 x2 x3 : Value) (M D : List Int) (a : Act) (w : World) : Prop where
  f : MF w0 a
  mb : MB w0 X w
  r : ∃ A1 c1 A2 c2 tD, Blk w (w0.heap.size + 2) 36 #[x0, x1, x2, x3, .slice A1 M.length c1, .slice A2 D.length c2, .slice none 0 0, .slice none 0 0] ∧ OwnI w (w0.heap.size + 3) (.slice A1 M.length c1) M ∧ (∀ g, (Value.slice A1 M.length c1).ownBlock = some g → g < tD) ∧ OwnI w tD (.slice A2 D.length c2) D ∧ w0.heap.size + 3 ≤ tD ∧ tD ≤ w.heap.size
/-- four lists of the call's own, in blocks of their own -/
structure Four (w : World) (n0 : Nat) (A1 A2 A3 A4 : Option Addr) (c1 c2 c3 c4 : Nat) (M D : List Int) (K : List (Int × Int)) (P : List Int) (tD tW tP : Nat) : Prop where
  oM : OwnI w n0 (.slice A1 M.length c1) M
  gM : ∀ g, (Value.slice A1 M.length c1).ownBlock = some g → g < tD
  oD : OwnI w tD (.slice A2 D.length c2) D
  gD : ∀ g, (Value.slice A2 D.length c2).ownBlock = some g → g < tW
  oW : OwnN w tW (.slice A3 K.length c3) K
  gW : ∀ g, (Value.slice A3 K.length c3).ownBlock = some g → g < tP
  oP : OwnI w tP (.slice A4 P.length c4) P
  hD : n0 ≤ tD
  hW : tD ≤ tW
  hP : tW ≤ tP
structure MS3 (w0 : World) (X : Array Value) (x0 x1 x2 x3 : Value) (M D : List Int) (K : List (Int × Int)) (P : List Int) (a : Act) (w : World) : Prop where
  f : MF w0 a
  mb : MB w0 X w
  r : ∃ A1 A2 A3 A4 c1 c2 c3 c4 tD tW tP, Blk w (w0.heap.size + 2) 36 #[x0, x1, x2, x3, .slice A1 M.length c1, .slice A2 D.length c2, .slice A3 K.length c3, .slice A4 P.length c4] ∧ Four w (w0.heap.size + 3) A1 A2 A3 A4 c1 c2 c3 c4 M D K P tD tW tP
theorem few_any' (b0 : Nat) (most : Int) (A0 : Option Addr) (c0 : Nat) (l : List Int) (w : World) (hS : OwnI w b0 (.slice A0 l.length c0) l) (hl : l.length ≤ 1000) (hm0 : 0 ≤ most) (hm1 : most ≤ 1000) :
    Calls Tryz.prog 52 #[.slice A0 l.length c0, .int .i64 most] w fun e w' => ∃ v, e = .returned v ∧ ∃ A cap, v = .slice A (Mk.few most l).length cap ∧ OwnI w' w.heap.size (.slice A (Mk.few most l).length cap) (Mk.few most l) ∧ Below w.heap.size w w' :=
  (few_any b0 most A0 c0 l w hS hl hm0 hm1).mono fun _ _ ⟨A, cap, h1, h2, h3⟩ => ⟨_, h1, A, cap, rfl, h2, h3⟩
theorem sortW_own' {w : World} {base : Nat} {v : Value} {L : List Wk} (h : OwnN w base v (L.map (·.1))) (hl : L.length ≤ 1000000) : Calls Tryz.prog 53 #[v, .func (.func 54) #[] #[]] w fun e w' => ∃ u, e = .returned u ∧ u = .tuple #[] ∧ OwnN w' base v ((L.mergeSort fun x y => !ltOf cfW y x).map (·.1)) ∧ ∀ B b, B ≤ base → Exc B b w w' :=
  (sortW_own h hl).mono fun _ _ h => ⟨_, h.1, rfl, h.2⟩
theorem results_rule {tmps : Array Value} {w : World} {b : Nat} {f iv c u : Int} {sM sD sW sP : Value} (hd : tmps.getD 2 undef = .pointer (some ⟨b, 0, none⟩)) (h : RuleAt w b f iv c u sM sD sW sP) :
    (results Tryz.f29 tmps).run Tryz.prog w = .ok (.agg #[.int .i64 f, .int .i64 iv, .int .i64 c, .int .i64 u, sM, sD, sW, sP]) w := by
  obtain ⟨-, c0, c1, c2, c3, c4, c5, c6, c7⟩ := h
  have hr : tmps[2]?.getD undef = .pointer (some ⟨b, 0, none⟩) := by simpa using hd
  have hl : (loadVar 36 ⟨b, 0, none⟩).run Tryz.prog w = .ok (.agg #[.int .i64 f, .int .i64 iv, .int .i64 c, .int .i64 u, sM, sD, sW, sP]) w := by go_simp
  simp [results, hr, asAddr, hl]
theorem most_at (F : Int) (h : 0 ≤ F) : ∃ q : Nat, F.tmod 4 = (q : Int) ∧ q < 4 ∧ (#[Value.int .i64 0, .int .i64 0, .int .i64 5, .int .i64 53] : Array Value)[q]? = some (.int .i64 (Mk.most F)) := by
  have e : F.tmod 4 = F % 4 := Int.tmod_eq_emod_of_nonneg h
  have h4 : F % 4 = 0 ∨ F % 4 = 1 ∨ F % 4 = 2 ∨ F % 4 = 3 := by omega
  rcases h4 with h4 | h4 | h4 | h4
  · exact ⟨0, by rw [e, h4]; rfl, by omega, by simp [Mk.most, e, h4]⟩
  · exact ⟨1, by rw [e, h4]; rfl, by omega, by simp [Mk.most, e, h4]⟩
  · exact ⟨2, by rw [e, h4]; rfl, by omega, by simp [Mk.most, e, h4]⟩
  · exact ⟨3, by rw [e, h4]; rfl, by omega, by simp [Mk.most, e, h4]⟩
theorem most_bd (F : Int) : 0 ≤ Mk.most F ∧ Mk.most F ≤ 53 := by
  unfold Mk.most; split
  · omega
  · split <;> omega
noncomputable def makeBody : Code := Tryz.f29.body.getD .skip

set_option maxRecDepth 100000 in
set_option maxHeartbeats 4000000 in
theorem make_any (F I E C U : Int) (AM AD AW AP : Option Addr) (cM cD cW cP : Nat) (lm ld : List Int) (lw : List (Int × Int)) (lp : List Int) (w0 : World) (hX : XIn w0 F I E C U AM AD AW AP lm ld lw lp) :
    Calls Tryz.prog 29 #[.agg #[.int .u8 F, .int .u8 I, .int .u8 E, .int .u16 C, .int .u32 U, .slice AM lm.length cM, .slice AD ld.length cD, .slice AW lw.length cW, .slice AP lp.length cP]] w0 fun e w' => ∃ A1 A2 A3 A4 c1 c2 c3 c4 tD tW tP, e = .returned (.agg #[.int .i64 (F.tmod 4), .int .i64 (Mk.iv I), .int .i64 (Mk.cnt E C), .int .i64 (Mk.unt E U), .slice A1 (Mk.mon lm).length c1, .slice A2 (Mk.D F ld).length c2, .slice A3 ((Mk.W F lw).map (·.1)).length c3, .slice A4 (Mk.P F lm ld lw lp).length c4]) ∧ Four w' w0.heap.size A1 A2 A3 A4 c1 c2 c3 c4 (Mk.mon lm) (Mk.D F ld) ((Mk.W F lw).map (·.1)) (Mk.P F lm ld lw lp) tD tW tP ∧ Below w0.heap.size w0 w' := by
  obtain ⟨⟨F0', F1'⟩, ⟨I0, I1⟩, ⟨E0, E1⟩, ⟨C0, C1⟩, ⟨U0, U1⟩, hm, hd', hk, hp, bm, bd, bk, bp, lm1, ld1, lw1, lp1⟩ := hX
  have eF : F.tmod 4 = F % 4 := Int.tmod_eq_emod_of_nonneg F0'
  have eI6 : I.tmod 6 = I % 6 := Int.tmod_eq_emod_of_nonneg I0
  have eI5 : I.tmod 5 = I % 5 := Int.tmod_eq_emod_of_nonneg I0
  have eE : E.tmod 4 = E % 4 := Int.tmod_eq_emod_of_nonneg E0
  have eC : C.tmod 9999 = C % 9999 := Int.tmod_eq_emod_of_nonneg C0
  have eU : U.tmod 3652059 = U % 3652059 := Int.tmod_eq_emod_of_nonneg U0
  refine calls_of_wp Tryz.func29 (show Tryz.f29.body = some makeBody from rfl) ?_
  generalize hA : (Act.mk (#[.agg #[.int .u8 F, .int .u8 I, .int .u8 E, .int .u16 C, .int .u32 U, .slice AM lm.length cM, .slice AD ld.length cD, .slice AW lw.length cW, .slice AP lp.length cP]] ++ Array.replicate (Tryz.f29.ntmps - (#[.agg #[.int .u8 F, .int .u8 I, .int .u8 E, .int .u16 C, .int .u32 U, .slice AM lm.length cM, .slice AD ld.length cD, .slice AW lw.length cW, .slice AP lp.length cP]] : Array Value).size) undef) []) = a
  have hs : a.tmps.size = 164 := by rw [← hA]; simp [Tryz.ntmps29]
  have hd : a.defers = [] := by rw [← hA]
  have h0 : a.tmps.getD 0 undef = .agg #[.int .u8 F, .int .u8 I, .int .u8 E, .int .u16 C, .int .u32 U, .slice AM lm.length cM, .slice AD ld.length cD, .slice AW lw.length cW, .slice AP lp.length cP] := by rw [← hA]; simp
  clear hA
  refine Code.wp_mono NoPanic.imp ?_
  have hQ : Blind (NoPanic (bodyPost Tryz.prog Tryz.f29 fun e w' => ∃ A1 A2 A3 A4 c1 c2 c3 c4 tD tW tP, e = .returned (.agg #[.int .i64 (F.tmod 4), .int .i64 (Mk.iv I), .int .i64 (Mk.cnt E C), .int .i64 (Mk.unt E U), .slice A1 (Mk.mon lm).length c1, .slice A2 (Mk.D F ld).length c2, .slice A3 ((Mk.W F lw).map (·.1)).length c3, .slice A4 (Mk.P F lm ld lw lp).length c4]) ∧ Four w' w0.heap.size A1 A2 A3 A4 c1 c2 c3 c4 (Mk.mon lm) (Mk.D F ld) ((Mk.W F lw).map (·.1)) (Mk.P F lm ld lw lp) tD tW tP ∧ Below w0.heap.size w0 w')) := fun _ _ _ _ q => q.elim
  have hfin : ∀ (a' : Act) (w' : World) (A1 A2 A3 A4 : Option Addr) (c1 c2 c3 c4 tD tW tP : Nat), a'.defers = [] → a'.tmps.getD 2 undef = .pointer (some ⟨(w0.heap.size + 1), 0, none⟩) → Blk w' (w0.heap.size + 1) 36 #[.int .i64 (F.tmod 4), .int .i64 (Mk.iv I), .int .i64 (Mk.cnt E C), .int .i64 (Mk.unt E U), .slice A1 (Mk.mon lm).length c1, .slice A2 (Mk.D F ld).length c2, .slice A3 ((Mk.W F lw).map (·.1)).length c3, .slice A4 (Mk.P F lm ld lw lp).length c4] → Four w' w0.heap.size A1 A2 A3 A4 c1 c2 c3 c4 (Mk.mon lm) (Mk.D F ld) ((Mk.W F lw).map (·.1)) (Mk.P F lm ld lw lp) tD tW tP → Below w0.heap.size w0 w' → NoPanic (bodyPost Tryz.prog Tryz.f29 fun e w' => ∃ A1 A2 A3 A4 c1 c2 c3 c4 tD tW tP, e = .returned (.agg #[.int .i64 (F.tmod 4), .int .i64 (Mk.iv I), .int .i64 (Mk.cnt E C), .int .i64 (Mk.unt E U), .slice A1 (Mk.mon lm).length c1, .slice A2 (Mk.D F ld).length c2, .slice A3 ((Mk.W F lw).map (·.1)).length c3, .slice A4 (Mk.P F lm ld lw lp).length c4]) ∧ Four w' w0.heap.size A1 A2 A3 A4 c1 c2 c3 c4 (Mk.mon lm) (Mk.D F ld) ((Mk.W F lw).map (·.1)) (Mk.P F lm ld lw lp) tD tW tP ∧ Below w0.heap.size w0 w') .ret a' w' := by
    intro a' w' A1 A2 A3 A4 c1 c2 c3 c4 tD tW tP k1 k2 k3 k4 k5
    exact ⟨k1, _, results_rule k2 k3.rule, A1, A2, A3, A4, c1, c2, c3, c4, tD, tW, tP, rfl, k4, k5⟩
  generalize NoPanic (bodyPost Tryz.prog Tryz.f29 fun e w' => ∃ A1 A2 A3 A4 c1 c2 c3 c4 tD tW tP, e = .returned (.agg #[.int .i64 (F.tmod 4), .int .i64 (Mk.iv I), .int .i64 (Mk.cnt E C), .int .i64 (Mk.unt E U), .slice A1 (Mk.mon lm).length c1, .slice A2 (Mk.D F ld).length c2, .slice A3 ((Mk.W F lw).map (·.1)).length c3, .slice A4 (Mk.P F lm ld lw lp).length c4]) ∧ Four w' w0.heap.size A1 A2 A3 A4 c1 c2 c3 c4 (Mk.mon lm) (Mk.D F ld) ((Mk.W F lw).map (·.1)) (Mk.P F lm ld lw lp) tD tW tP ∧ Below w0.heap.size w0 w') = Q at hQ hfin
  unfold makeBody
  conv => arg 2; whnf
  refine wp_seq ?_
  refine wp_region (show wpOps _ _ _ [0, 1] _ _ from ?_)
  refine opL 0 1 (v := .pointer (some ⟨w0.heap.size, 0, none⟩)) (w' := (w0.alloc (.cells #[.int .u8 F, .int .u8 I, .int .u8 E, .int .u16 C, .int .u32 U, .slice AM lm.length cM, .slice AD ld.length cD, .slice AW lw.length cW, .slice AP lp.length cP] 29))) (by kernel_rfl) (frZ hs) ?_ ?_
  · exact frY rfl (k_box9 rfl (ev_tmp h0))
  refine frN0 hs hd ?_; clear hs hd h0; intro a hs hd h1
  obtain ⟨w1, hw1⟩ : ∃ wn, wn = w0.alloc (.cells #[.int .u8 F, .int .u8 I, .int .u8 E, .int .u16 C, .int .u32 U, .slice AM lm.length cM, .slice AD ld.length cD, .slice AW lw.length cW, .slice AP lp.length cP] 29) := ⟨_, rfl⟩
  rw [← hw1]
  have q1 : Blk w1 w0.heap.size 29 #[.int .u8 F, .int .u8 I, .int .u8 E, .int .u16 C, .int .u32 U, .slice AM lm.length cM, .slice AD ld.length cD, .slice AW lw.length cW, .slice AP lp.length cP] := by rw [hw1]; exact Blk.alloc _ _ _
  have l1 : Below w0.heap.size w0 w1 := by rw [hw1]; exact (Below.refl _ _).alloc (Nat.le_refl _) _
  have z1 : w1.heap.size = w0.heap.size + 1 := by rw [hw1]; simp
  clear hw1
  refine opL 1 2 (v := .pointer (some ⟨w1.heap.size, 0, none⟩)) (w' := (w1.alloc (.cells #[.int .i64 0, .int .i64 0, .int .i64 0, .int .i64 0, .slice none 0 0, .slice none 0 0, .slice none 0 0, .slice none 0 0] 36))) (by kernel_rfl) (frZ hs) ?_ ?_
  · exact frY rfl (k_allocR rfl)
  refine frN1 hs hd h1 ?_; clear hs hd h1; intro a hs hd h1 h2
  obtain ⟨w2, hw2⟩ : ∃ wn, wn = w1.alloc (.cells #[.int .i64 0, .int .i64 0, .int .i64 0, .int .i64 0, .slice none 0 0, .slice none 0 0, .slice none 0 0, .slice none 0 0] 36) := ⟨_, rfl⟩
  rw [← hw2]
  have q2 : Blk w2 w1.heap.size 36 #[.int .i64 0, .int .i64 0, .int .i64 0, .int .i64 0, .slice none 0 0, .slice none 0 0, .slice none 0 0, .slice none 0 0] := by rw [hw2]; exact Blk.alloc _ _ _
  have l2 : Below w1.heap.size w1 w2 := by rw [hw2]; exact (Below.refl _ _).alloc (Nat.le_refl _) _
  have z2 : w2.heap.size = w1.heap.size + 1 := by rw [hw2]; simp
  clear hw2
  rw [z1] at h2 q2
  have q1' := q1.below l2 (by omega)
  have b12 := l1.trans (l2.mono (by omega))
  refine wp_seq ?_
  refine wp_region (show wpOps _ _ _ [0, 1, 2, 3, 4, 5, 6, 7, 8, 9, 10, 11] _ _ from ?_)
  refine opL 0 15 (v := .pointer (some ⟨w0.heap.size, 0, none⟩)) (w' := w2) (by kernel_rfl) (frZ hs) ?_ ?_
  · exact frY rfl (k_fieldR0 rfl (ev_tmp h1))
  refine frN2 hs hd h1 h2 ?_; clear hs hd h1 h2; intro a hs hd h1 h2 h15
  refine opL 1 16 (v := .int .u8 F) (w' := w2) (by kernel_rfl) (frZ hs) ?_ ?_
  · exact frY rfl (k_loadB rfl (ev_tmp h15) (q1'.cell 0))
  clear h15; revert hs hd h1 h2; refine frM2 ?_; intro a hs hd h1 h2 h16
  refine opL 2 17 (v := .int .u8 (F.tmod 4)) (w' := w2) (by kernel_rfl) (frZ hs) ?_ ?_
  · exact frY rfl (o_remB rfl (ev_tmp h16) rfl (by decide) rfl)
  clear h16; revert hs hd h1 h2; refine frM2 ?_; intro a hs hd h1 h2 h17
  refine opL 3 18 (v := .int .i64 (F.tmod 4)) (w' := w2) (by kernel_rfl) (frZ hs) ?_ ?_
  · exact frY rfl (o_convBF rfl (ev_tmp h17) (wrap_small (by omega) (by omega)))
  clear h17; revert hs hd h1 h2; refine frM2 ?_; intro a hs hd h1 h2 h18
  refine opL 4 19 (v := .pointer (some ⟨w0.heap.size, 1, none⟩)) (w' := w2) (by kernel_rfl) (frZ hs) ?_ ?_
  · exact frY rfl (k_fieldR1 rfl (ev_tmp h1))
  revert hs hd h1 h2 h18; refine frM3 ?_; intro a hs hd h1 h2 h18 h19
  refine opL 5 20 (v := .int .u8 I) (w' := w2) (by kernel_rfl) (frZ hs) ?_ ?_
  · exact frY rfl (k_loadB rfl (ev_tmp h19) (q1'.cell 1))
  clear h19; revert hs hd h1 h2 h18; refine frM3 ?_; intro a hs hd h1 h2 h18 h20
  refine opL 6 21 (v := .int .u8 (I.tmod 6)) (w' := w2) (by kernel_rfl) (frZ hs) ?_ ?_
  · exact frY rfl (o_remB rfl (ev_tmp h20) rfl (by decide) rfl)
  clear h20; revert hs hd h1 h2 h18; refine frM3 ?_; intro a hs hd h1 h2 h18 h21
  refine opL 7 22 (v := .int .i64 (I.tmod 6)) (w' := w2) (by kernel_rfl) (frZ hs) ?_ ?_
  · exact frY rfl (o_convBI rfl (ev_tmp h21) (wrap_small (by omega) (by omega)))
  clear h21; revert hs hd h1 h2 h18; refine frM3 ?_; intro a hs hd h1 h2 h18 h22
  refine opL 8 23 (v := .int .i64 (1 + I.tmod 6)) (w' := w2) (by kernel_rfl) (frZ hs) ?_ ?_
  · exact frY rfl (o_addI rfl rfl (ev_tmp h22) (wrap_small (by omega) (by omega)))
  clear h22; revert hs hd h1 h2 h18; refine frM3 ?_; intro a hs hd h1 h2 h18 h23
  refine opL 9 24 (v := .agg #[.int .i64 (F.tmod 4), .int .i64 (1 + I.tmod 6), .int .i64 0, .int .i64 0, .slice none 0 0, .slice none 0 0, .slice none 0 0, .slice none 0 0]) (w' := w2) (by kernel_rfl) (frZ hs) ?_ ?_
  · exact frY rfl (k_buildR2 rfl (ev_tmp h18) (ev_tmp h23))
  clear h18 h23; revert hs hd h1 h2; refine frM2 ?_; intro a hs hd h1 h2 h24
  refine opL 10 3 (v := .pointer (some ⟨w2.heap.size, 0, none⟩)) (w' := (w2.alloc (.cells #[.int .i64 0, .int .i64 0, .int .i64 0, .int .i64 0, .slice none 0 0, .slice none 0 0, .slice none 0 0, .slice none 0 0] 36))) (by kernel_rfl) (frZ hs) ?_ ?_
  · exact frY rfl (k_allocR rfl)
  revert hs hd h1 h2 h24; refine frM3 ?_; intro a hs hd h1 h2 h24 h3
  obtain ⟨w3, hw3⟩ : ∃ wn, wn = w2.alloc (.cells #[.int .i64 0, .int .i64 0, .int .i64 0, .int .i64 0, .slice none 0 0, .slice none 0 0, .slice none 0 0, .slice none 0 0] 36) := ⟨_, rfl⟩
  rw [← hw3]
  have q3 : Blk w3 w2.heap.size 36 #[.int .i64 0, .int .i64 0, .int .i64 0, .int .i64 0, .slice none 0 0, .slice none 0 0, .slice none 0 0, .slice none 0 0] := by rw [hw3]; exact Blk.alloc _ _ _
  have l3 : Below w2.heap.size w2 w3 := by rw [hw3]; exact (Below.refl _ _).alloc (Nat.le_refl _) _
  have z3 : w3.heap.size = w2.heap.size + 1 := by rw [hw3]; simp
  clear hw3
  have zz : w2.heap.size = w0.heap.size + 2 := by omega
  rw [zz] at h3 q3
  refine opL_store 11 (w' := (w3.setRow (w0.heap.size + 2) #[.int .i64 (F.tmod 4), .int .i64 (1 + I.tmod 6), .int .i64 0, .int .i64 0, .slice none 0 0, .slice none 0 0, .slice none 0 0, .slice none 0 0])) (by kernel_rfl) ?_ ?_
  · exact frY rfl (k_storeR rfl (ev_tmp h3) (ev_tmp h24) q3 rfl rfl (by simp [Value.oneCell']))
  clear h24
  obtain ⟨w, hww⟩ : ∃ wn, wn = w3.setRow (w0.heap.size + 2) #[.int .i64 (F.tmod 4), .int .i64 (1 + I.tmod 6), .int .i64 0, .int .i64 0, .slice none 0 0, .slice none 0 0, .slice none 0 0, .slice none 0 0] := ⟨_, rfl⟩
  rw [← hww]
  have B3 : Blk w (w0.heap.size + 2) 36 #[.int .i64 (F.tmod 4), .int .i64 (1 + I.tmod 6), .int .i64 0, .int .i64 0, .slice none 0 0, .slice none 0 0, .slice none 0 0, .slice none 0 0] := by rw [hww]; exact q3.setRow
  have e3 : ∀ B, Exc B (w0.heap.size + 2) w3 w := by rw [hww]; exact exc_setRow w3 _ _
  clear hww
  have mb : MB w0 #[.int .u8 F, .int .u8 I, .int .u8 E, .int .u16 C, .int .u32 U, .slice AM lm.length cM, .slice AD ld.length cD, .slice AW lw.length cW, .slice AP lp.length cP] w := (MB.mk (q1'.below l3 (by omega)) (q2.below l3 (by omega)) (b12.trans (l3.mono (by omega))) (by omega) : MB w0 #[.int .u8 F, .int .u8 I, .int .u8 E, .int .u16 C, .int .u32 U, .slice AM lm.length cM, .slice AD ld.length cD, .slice AW lw.length cW, .slice AP lp.length cP] w3).exc (e3 w3.heap.size) (by omega) (by omega)
  clear q1 q2 q3 q1' l1 l2 l3 z1 z2 z3 zz b12 e3 w1 w2 w3
  refine wp_seq ?_
  refine wp_seq ?_
  refine wp_region (show wpOps _ _ _ [0, 1, 2] _ _ from ?_)
  refine opL 0 25 (v := .pointer (some ⟨w0.heap.size, 1, none⟩)) (w' := w) (by kernel_rfl) (frZ hs) ?_ ?_
  · exact frY rfl (k_fieldR1 rfl (ev_tmp h1))
  refine frN3 hs hd h1 h2 h3 ?_; clear hs hd h1 h2 h3; intro a hs hd h1 h2 h3 h25
  refine opL 1 26 (v := .int .u8 I) (w' := w) (by kernel_rfl) (frZ hs) ?_ ?_
  · exact frY rfl (k_loadB rfl (ev_tmp h25) (mb.B1.cell 1))
  clear h25; revert hs hd h1 h2 h3; refine frM3 ?_; intro a hs hd h1 h2 h3 h26
  refine opL 2 27 (v := .bool (decide (250 < I))) (w' := w) (by kernel_rfl) (frZ hs) ?_ ?_
  · exact frY rfl (o_gtB rfl (ev_tmp h26) rfl rfl)
  clear h26; revert hs hd h1 h2 h3; refine frM3 ?_; intro a hs hd h1 h2 h3 h27
  refine cut_at (MS1 w0 #[.int .u8 F, .int .u8 I, .int .u8 E, .int .u16 C, .int .u32 U, .slice AM lm.length cM, .slice AD ld.length cD, .slice AW lw.length cW, .slice AP lp.length cP] #[.int .i64 (F.tmod 4), .int .i64 (Mk.iv I), .int .i64 0, .int .i64 0, .slice none 0 0, .slice none 0 0, .slice none 0 0, .slice none 0 0]) ?z121 ?z122
  case z121 =>
    cases hI : decide (250 < I)
    case false =>
      rw [hI] at h27
      refine wp_cond_false (ev_tmp h27) ?_
      refine wp_skip ?_
      have e : Mk.iv I = 1 + I.tmod 6 := by unfold Mk.iv; rw [if_neg (of_decide_eq_false hI)]
      rw [e]
      exact ⟨⟨hd, hs, h1, h2, h3⟩, mb, B3⟩
    case true =>
      rw [hI] at h27
      refine wp_cond_true (ev_tmp h27) ?_
      refine wp_region (show wpOps _ _ _ [0, 1, 2, 3, 4, 5, 6] _ _ from ?_)
      refine opL 0 28 (v := .pointer (some ⟨w0.heap.size, 1, none⟩)) (w' := w) (by kernel_rfl) (frZ hs) ?_ ?_
      · exact frY rfl (k_fieldR1 rfl (ev_tmp h1))
      refine frN4 hs hd h1 h2 h3 h27 ?_; clear hs hd h1 h2 h3 h27; intro a hs hd h1 h2 h3 h27 h28
      refine opL 1 29 (v := .int .u8 I) (w' := w) (by kernel_rfl) (frZ hs) ?_ ?_
      · exact frY rfl (k_loadB rfl (ev_tmp h28) (mb.B1.cell 1))
      clear h28; revert hs hd h1 h2 h3 h27; refine frM4 ?_; intro a hs hd h1 h2 h3 h27 h29
      refine opL 2 30 (v := .int .u8 (I.tmod 5)) (w' := w) (by kernel_rfl) (frZ hs) ?_ ?_
      · exact frY rfl (o_remB rfl (ev_tmp h29) rfl (by decide) rfl)
      clear h29; revert hs hd h1 h2 h3 h27; refine frM4 ?_; intro a hs hd h1 h2 h3 h27 h30
      refine opL 3 31 (v := .int .i64 (I.tmod 5)) (w' := w) (by kernel_rfl) (frZ hs) ?_ ?_
      · exact frY rfl (o_convBI rfl (ev_tmp h30) (wrap_small (by omega) (by omega)))
      clear h30; revert hs hd h1 h2 h3 h27; refine frM4 ?_; intro a hs hd h1 h2 h3 h27 h31
      refine opL 4 32 (v := .int .i64 (999 - I.tmod 5)) (w' := w) (by kernel_rfl) (frZ hs) ?_ ?_
      · exact frY rfl (o_subI rfl rfl (ev_tmp h31) (wrap_small (by omega) (by omega)))
      clear h31; revert hs hd h1 h2 h3 h27; refine frM4 ?_; intro a hs hd h1 h2 h3 h27 h32
      refine opL 5 33 (v := .pointer (some ⟨(w0.heap.size + 2), 1, none⟩)) (w' := w) (by kernel_rfl) (frZ hs) ?_ ?_
      · exact frY rfl (k_field1 rfl (ev_tmp h3))
      revert hs hd h1 h2 h3 h27 h32; refine frM5 ?_; intro a hs hd h1 h2 h3 h27 h32 h33
      refine opL_store 6 (w' := (w.setCell ⟨(w0.heap.size + 2), 1, none⟩ (.int .i64 (999 - I.tmod 5)))) (by kernel_rfl) ?_ ?_
      · exact frY rfl (k_storeI rfl (ev_tmp h33) (ev_tmp h32) B3 (by simp))
      clear h32
      clear h33
      obtain ⟨wx, hwwx⟩ : ∃ wn, wn = w.setCell ⟨(w0.heap.size + 2), 1, none⟩ (.int .i64 (999 - I.tmod 5)) := ⟨_, rfl⟩
      rw [← hwwx]
      have B3x : Blk wx (w0.heap.size + 2) 36 #[.int .i64 (F.tmod 4), .int .i64 (999 - I.tmod 5), .int .i64 0, .int .i64 0, .slice none 0 0, .slice none 0 0, .slice none 0 0, .slice none 0 0] := by rw [hwwx]; exact B3.set 1 _
      have ex : ∀ B, Exc B (w0.heap.size + 2) w wx := by rw [hwwx]; exact exc_set w (w0.heap.size + 2) 1 _
      clear hwwx
      have e : Mk.iv I = 999 - I.tmod 5 := by unfold Mk.iv; rw [if_pos (of_decide_eq_true hI)]
      rw [e]
      exact ⟨⟨hd, hs, h1, h2, h3⟩, mb.exc (ex w.heap.size) (by have := mb.sz; omega) (by omega), B3x⟩
  case z122 =>
  clear mb B3
  clear hs hd h1 h2 h3 h27
  rintro a w ⟨mf, mb, B3⟩
  have hd := mf.d
  have hs := mf.z
  have h1 := mf.s1
  have h2 := mf.s2
  have h3 := mf.s3
  clear mf
  refine wp_seq ?_
  refine wp_seq ?_
  refine wp_region (show wpOps _ _ _ [0, 1, 2] _ _ from ?_)
  refine opL 0 34 (v := .pointer (some ⟨w0.heap.size, 2, none⟩)) (w' := w) (by kernel_rfl) (frZ hs) ?_ ?_
  · exact frY rfl (k_fieldR2 rfl (ev_tmp h1))
  refine frN3 hs hd h1 h2 h3 ?_; clear hs hd h1 h2 h3; intro a hs hd h1 h2 h3 h34
  refine opL 1 35 (v := .int .u8 E) (w' := w) (by kernel_rfl) (frZ hs) ?_ ?_
  · exact frY rfl (k_loadB rfl (ev_tmp h34) (mb.B1.cell 2))
  clear h34; revert hs hd h1 h2 h3; refine frM3 ?_; intro a hs hd h1 h2 h3 h35
  refine opL 2 36 (v := .int .u8 (E.tmod 4)) (w' := w) (by kernel_rfl) (frZ hs) ?_ ?_
  · exact frY rfl (o_remB rfl (ev_tmp h35) rfl (by decide) rfl)
  clear h35; revert hs hd h1 h2 h3; refine frM3 ?_; intro a hs hd h1 h2 h3 h36
  refine cut_at (MS1 w0 #[.int .u8 F, .int .u8 I, .int .u8 E, .int .u16 C, .int .u32 U, .slice AM lm.length cM, .slice AD ld.length cD, .slice AW lw.length cW, .slice AP lp.length cP] #[.int .i64 (F.tmod 4), .int .i64 (Mk.iv I), .int .i64 (Mk.cnt E C), .int .i64 (Mk.unt E U), .slice none 0 0, .slice none 0 0, .slice none 0 0, .slice none 0 0]) ?z143 ?z144
  case z143 =>
    have hE3 : E.tmod 4 = 0 ∨ E.tmod 4 = 1 ∨ (E.tmod 4 ≠ 0 ∧ E.tmod 4 ≠ 1) := by omega
    rcases hE3 with hE | hE | ⟨hE, hE'⟩
    · refine wp_block ?_
      refine wp_seq ?_
      refine wp_region (show wpOps _ _ _ [0, 1] _ _ from ?_)
      refine opL 0 38 (v := .bool true) (w' := w) (by kernel_rfl) (frZ hs) ?_ ?_
      · exact frY rfl (o_eqB rfl (ev_tmp h36) rfl (by simp [hE]))
      refine frN4 hs hd h1 h2 h3 h36 ?_; clear hs hd h1 h2 h3 h36; intro a hs hd h1 h2 h3 h36 h38
      refine opL 1 37 (v := .bool true) (w' := w) (by kernel_rfl) (frZ hs) ?_ ?_
      · exact frY rfl (k_assign rfl (ev_tmp h38))
      clear h38; revert hs hd h1 h2 h3 h36; refine frM4 ?_; intro a hs hd h1 h2 h3 h36 h37
      refine wp_cond_true (ev_tmp h37) ?_
      refine wp_region (show wpOps _ _ _ [0, 1, 2, 3, 4, 5, 6] _ _ from ?_)
      refine opL 0 39 (v := .pointer (some ⟨w0.heap.size, 3, none⟩)) (w' := w) (by kernel_rfl) (frZ hs) ?_ ?_
      · exact frY rfl (k_fieldR3 rfl (ev_tmp h1))
      revert hs hd h1 h2 h3 h36 h37; refine frM5 ?_; intro a hs hd h1 h2 h3 h36 h37 h39
      refine opL 1 40 (v := .int .u16 C) (w' := w) (by kernel_rfl) (frZ hs) ?_ ?_
      · exact frY rfl (k_loadH rfl (ev_tmp h39) (mb.B1.cell 3))
      clear h39; revert hs hd h1 h2 h3 h36 h37; refine frM5 ?_; intro a hs hd h1 h2 h3 h36 h37 h40
      refine opL 2 41 (v := .int .i64 C) (w' := w) (by kernel_rfl) (frZ hs) ?_ ?_
      · exact frY rfl (o_convHI rfl (ev_tmp h40) (wrap_small (by omega) (by omega)))
      clear h40; revert hs hd h1 h2 h3 h36 h37; refine frM5 ?_; intro a hs hd h1 h2 h3 h36 h37 h41
      refine opL 3 42 (v := .int .i64 (C.tmod 9999)) (w' := w) (by kernel_rfl) (frZ hs) ?_ ?_
      · exact frY rfl (o_remI rfl (ev_tmp h41) rfl (by decide) rfl)
      clear h41; revert hs hd h1 h2 h3 h36 h37; refine frM5 ?_; intro a hs hd h1 h2 h3 h36 h37 h42
      refine opL 4 43 (v := .int .i64 (1 + C.tmod 9999)) (w' := w) (by kernel_rfl) (frZ hs) ?_ ?_
      · exact frY rfl (o_addI rfl rfl (ev_tmp h42) (wrap_small (by omega) (by omega)))
      clear h42; revert hs hd h1 h2 h3 h36 h37; refine frM5 ?_; intro a hs hd h1 h2 h3 h36 h37 h43
      refine opL 5 44 (v := .pointer (some ⟨(w0.heap.size + 2), 2, none⟩)) (w' := w) (by kernel_rfl) (frZ hs) ?_ ?_
      · exact frY rfl (k_field2 rfl (ev_tmp h3))
      revert hs hd h1 h2 h3 h36 h37 h43; refine frM6 ?_; intro a hs hd h1 h2 h3 h36 h37 h43 h44
      refine opL_store 6 (w' := (w.setCell ⟨(w0.heap.size + 2), 2, none⟩ (.int .i64 (1 + C.tmod 9999)))) (by kernel_rfl) ?_ ?_
      · exact frY rfl (k_storeI rfl (ev_tmp h44) (ev_tmp h43) B3 (by simp))
      clear h43
      clear h44
      obtain ⟨wx, hwwx⟩ : ∃ wn, wn = w.setCell ⟨(w0.heap.size + 2), 2, none⟩ (.int .i64 (1 + C.tmod 9999)) := ⟨_, rfl⟩
      rw [← hwwx]
      have B3x : Blk wx (w0.heap.size + 2) 36 #[.int .i64 (F.tmod 4), .int .i64 (Mk.iv I), .int .i64 (1 + C.tmod 9999), .int .i64 0, .slice none 0 0, .slice none 0 0, .slice none 0 0, .slice none 0 0] := by rw [hwwx]; exact B3.set 2 _
      have ex : ∀ B, Exc B (w0.heap.size + 2) w wx := by rw [hwwx]; exact exc_set w (w0.heap.size + 2) 2 _
      clear hwwx
      have e1 : Mk.cnt E C = 1 + C.tmod 9999 := by unfold Mk.cnt; rw [if_pos hE]
      have e2 : Mk.unt E U = 0 := by unfold Mk.unt; rw [if_neg (by omega)]
      rw [e1, e2]
      exact ⟨⟨hd, hs, h1, h2, h3⟩, mb.exc (ex w.heap.size) (by have := mb.sz; omega) (by omega), B3x⟩
    · refine wp_block ?_
      refine wp_seq ?_
      refine wp_region (show wpOps _ _ _ [0, 1] _ _ from ?_)
      refine opL 0 38 (v := .bool false) (w' := w) (by kernel_rfl) (frZ hs) ?_ ?_
      · exact frY rfl (o_eqB rfl (ev_tmp h36) rfl (by simp [hE]))
      refine frN4 hs hd h1 h2 h3 h36 ?_; clear hs hd h1 h2 h3 h36; intro a hs hd h1 h2 h3 h36 h38
      refine opL 1 37 (v := .bool false) (w' := w) (by kernel_rfl) (frZ hs) ?_ ?_
      · exact frY rfl (k_assign rfl (ev_tmp h38))
      clear h38; revert hs hd h1 h2 h3 h36; refine frM4 ?_; intro a hs hd h1 h2 h3 h36 h37
      refine wp_cond_false (ev_tmp h37) ?_
      refine wp_seq ?_
      refine wp_region (show wpOps _ _ _ [0, 1] _ _ from ?_)
      refine opL 0 46 (v := .bool true) (w' := w) (by kernel_rfl) (frZ hs) ?_ ?_
      · exact frY rfl (o_eqB rfl (ev_tmp h36) rfl (by simp [hE]))
      revert hs hd h1 h2 h3 h36 h37; refine frM5 ?_; intro a hs hd h1 h2 h3 h36 h37 h46
      refine opL 1 45 (v := .bool true) (w' := w) (by kernel_rfl) (frZ hs) ?_ ?_
      · exact frY rfl (k_assign rfl (ev_tmp h46))
      clear h46; revert hs hd h1 h2 h3 h36 h37; refine frM5 ?_; intro a hs hd h1 h2 h3 h36 h37 h45
      refine wp_cond_true (ev_tmp h45) ?_
      refine wp_region (show wpOps _ _ _ [0, 1, 2, 3, 4, 5, 6] _ _ from ?_)
      refine opL 0 47 (v := .pointer (some ⟨w0.heap.size, 4, none⟩)) (w' := w) (by kernel_rfl) (frZ hs) ?_ ?_
      · exact frY rfl (k_fieldR4 rfl (ev_tmp h1))
      revert hs hd h1 h2 h3 h36 h37 h45; refine frM6 ?_; intro a hs hd h1 h2 h3 h36 h37 h45 h47
      refine opL 1 48 (v := .int .u32 U) (w' := w) (by kernel_rfl) (frZ hs) ?_ ?_
      · exact frY rfl (k_loadQ rfl (ev_tmp h47) (mb.B1.cell 4))
      clear h47; revert hs hd h1 h2 h3 h36 h37 h45; refine frM6 ?_; intro a hs hd h1 h2 h3 h36 h37 h45 h48
      refine opL 2 49 (v := .int .u32 (U.tmod 3652059)) (w' := w) (by kernel_rfl) (frZ hs) ?_ ?_
      · exact frY rfl (o_remQ rfl (ev_tmp h48) rfl (by decide) rfl)
      clear h48; revert hs hd h1 h2 h3 h36 h37 h45; refine frM6 ?_; intro a hs hd h1 h2 h3 h36 h37 h45 h49
      refine opL 3 50 (v := .int .i64 (U.tmod 3652059)) (w' := w) (by kernel_rfl) (frZ hs) ?_ ?_
      · exact frY rfl (o_convQU rfl (ev_tmp h49) (wrap_small (by omega) (by omega)))
      clear h49; revert hs hd h1 h2 h3 h36 h37 h45; refine frM6 ?_; intro a hs hd h1 h2 h3 h36 h37 h45 h50
      refine opL 4 51 (v := .int .i64 (1 + U.tmod 3652059)) (w' := w) (by kernel_rfl) (frZ hs) ?_ ?_
      · exact frY rfl (o_addU rfl rfl (ev_tmp h50) (wrap_small (by omega) (by omega)))
      clear h50; revert hs hd h1 h2 h3 h36 h37 h45; refine frM6 ?_; intro a hs hd h1 h2 h3 h36 h37 h45 h51
      refine opL 5 52 (v := .pointer (some ⟨(w0.heap.size + 2), 3, none⟩)) (w' := w) (by kernel_rfl) (frZ hs) ?_ ?_
      · exact frY rfl (k_field3 rfl (ev_tmp h3))
      revert hs hd h1 h2 h3 h36 h37 h45 h51; refine frM7 ?_; intro a hs hd h1 h2 h3 h36 h37 h45 h51 h52
      refine opL_store 6 (w' := (w.setCell ⟨(w0.heap.size + 2), 3, none⟩ (.int .i64 (1 + U.tmod 3652059)))) (by kernel_rfl) ?_ ?_
      · exact frY rfl (k_storeU rfl (ev_tmp h52) (ev_tmp h51) B3 (by simp))
      clear h51
      clear h52
      obtain ⟨wx, hwwx⟩ : ∃ wn, wn = w.setCell ⟨(w0.heap.size + 2), 3, none⟩ (.int .i64 (1 + U.tmod 3652059)) := ⟨_, rfl⟩
      rw [← hwwx]
      have B3x : Blk wx (w0.heap.size + 2) 36 #[.int .i64 (F.tmod 4), .int .i64 (Mk.iv I), .int .i64 0, .int .i64 (1 + U.tmod 3652059), .slice none 0 0, .slice none 0 0, .slice none 0 0, .slice none 0 0] := by rw [hwwx]; exact B3.set 3 _
      have ex : ∀ B, Exc B (w0.heap.size + 2) w wx := by rw [hwwx]; exact exc_set w (w0.heap.size + 2) 3 _
      clear hwwx
      have e1 : Mk.cnt E C = 0 := by unfold Mk.cnt; rw [if_neg (by omega)]
      have e2 : Mk.unt E U = 1 + U.tmod 3652059 := by unfold Mk.unt; rw [if_pos hE]
      rw [e1, e2]
      exact ⟨⟨hd, hs, h1, h2, h3⟩, mb.exc (ex w.heap.size) (by have := mb.sz; omega) (by omega), B3x⟩
    · refine wp_block ?_
      refine wp_seq ?_
      refine wp_region (show wpOps _ _ _ [0, 1] _ _ from ?_)
      refine opL 0 38 (v := .bool false) (w' := w) (by kernel_rfl) (frZ hs) ?_ ?_
      · exact frY rfl (o_eqB rfl (ev_tmp h36) rfl (by simp [hE]))
      refine frN4 hs hd h1 h2 h3 h36 ?_; clear hs hd h1 h2 h3 h36; intro a hs hd h1 h2 h3 h36 h38
      refine opL 1 37 (v := .bool false) (w' := w) (by kernel_rfl) (frZ hs) ?_ ?_
      · exact frY rfl (k_assign rfl (ev_tmp h38))
      clear h38; revert hs hd h1 h2 h3 h36; refine frM4 ?_; intro a hs hd h1 h2 h3 h36 h37
      refine wp_cond_false (ev_tmp h37) ?_
      refine wp_seq ?_
      refine wp_region (show wpOps _ _ _ [0, 1] _ _ from ?_)
      refine opL 0 46 (v := .bool false) (w' := w) (by kernel_rfl) (frZ hs) ?_ ?_
      · exact frY rfl (o_eqB rfl (ev_tmp h36) rfl (by simp [hE']))
      revert hs hd h1 h2 h3 h36 h37; refine frM5 ?_; intro a hs hd h1 h2 h3 h36 h37 h46
      refine opL 1 45 (v := .bool false) (w' := w) (by kernel_rfl) (frZ hs) ?_ ?_
      · exact frY rfl (k_assign rfl (ev_tmp h46))
      clear h46; revert hs hd h1 h2 h3 h36 h37; refine frM5 ?_; intro a hs hd h1 h2 h3 h36 h37 h45
      refine wp_cond_false (ev_tmp h45) ?_
      refine wp_skip ?_
      have e1 : Mk.cnt E C = 0 := by unfold Mk.cnt; rw [if_neg (by omega)]
      have e2 : Mk.unt E U = 0 := by unfold Mk.unt; rw [if_neg (by omega)]
      rw [e1, e2]
      exact ⟨⟨hd, hs, h1, h2, h3⟩, mb, B3⟩
  case z144 =>
  clear mb B3
  try clear h36
  clear hs hd h1 h2 h3
  rintro a w ⟨mf, mb, B3⟩
  have hd := mf.d
  have hs := mf.z
  have h1 := mf.s1
  have h2 := mf.s2
  have h3 := mf.s3
  clear mf
  refine wp_seq ?_
  refine wp_seq ?_
  refine wp_region (show wpOps _ _ _ [0, 1, 2, 3] _ _ from ?_)
  refine opL 0 53 (v := .pointer (some ⟨w0.heap.size, 5, none⟩)) (w' := w) (by kernel_rfl) (frZ hs) ?_ ?_
  · exact frY rfl (k_fieldR5 rfl (ev_tmp h1))
  refine frN3 hs hd h1 h2 h3 ?_; clear hs hd h1 h2 h3; intro a hs hd h1 h2 h3 h53
  refine opL 1 54 (v := .slice AM lm.length cM) (w' := w) (by kernel_rfl) (frZ hs) ?_ ?_
  · exact frY rfl (k_loadLB rfl (ev_tmp h53) (mb.B1.cell 5))
  clear h53; revert hs hd h1 h2 h3; refine frM3 ?_; intro a hs hd h1 h2 h3 h54
  refine opL 2 55 (v := .int .i64 lm.length) (w' := w) (by kernel_rfl) (frZ hs) ?_ ?_
  · exact frY rfl (k_lenB rfl (ev_tmp h54))
  revert hs hd h1 h2 h3 h54; refine frM4 ?_; intro a hs hd h1 h2 h3 h54 h55
  refine opL 3 56 (v := .int .i64 0) (w' := w) (by kernel_rfl) (frZ hs) ?_ ?_
  · exact frY rfl (k_move rfl rfl)
  revert hs hd h1 h2 h3 h54 h55; refine frM5 ?_; intro a hs hd h1 h2 h3 h54 h55 h56
  refine wp_block ?_
  obtain ⟨ws, hws⟩ : ∃ ws, ws = w := ⟨_, rfl⟩
  subst hws
  refine wp_loop (fun a wx => ∃ i A cap, LpI1 w0 ws (w0.heap.size + 2) (.pointer (some ⟨w0.heap.size, 0, none⟩)) (.pointer (some ⟨(w0.heap.size + 1), 0, none⟩)) (.int .i64 (F.tmod 4)) (.int .i64 (Mk.iv I)) (.int .i64 (Mk.cnt E C)) (.int .i64 (Mk.unt E U)) AM cM lm i A cap a wx) (fun a _ => (lm.length - intOf (a.tmps.getD 56 undef)).toNat) ⟨0, none, 0, ⟨hd, hs, h1, h2, h3, h54, h55, h56, Nat.zero_le _, B3, OwnI.nil _ _, Exc.refl _ _ _⟩⟩ ?_
  clear hs hd h1 h2 h3 h54 h55 h56 a
  rintro a w ⟨i, A1, c1, J⟩
  refine mk_round1 w0 ws (w0.heap.size + 2) _ _ _ _ _ _ AM cM lm hm mb.b (by omega) B3.lt bm lm1 i A1 c1 a w _ J ?_
  rintro rfl a hd hs h1 h2 h3
  have szs := mb.sz
  replace mb := mb.exc J.e (by omega) (by omega)
  replace B3 := J.B3
  have oM := J.o
  rw [List.take_length] at B3 oM
  have lenM := Mk.monOut_len (Nat.le_refl lm.length)
  rw [List.take_length] at lenM
  clear J
  change Code.wp _ _ _ _ _
  refine wp_seq ?_
  refine wp_region (show wpOps _ _ _ [0, 1, 2] _ _ from ?_)
  refine opL 0 70 (v := .pointer (some ⟨(w0.heap.size + 2), 4, none⟩)) (w' := w) (by kernel_rfl) (frZ hs) ?_ ?_
  · exact frY rfl (k_field4 rfl (ev_tmp h3))
  refine frN3 hs hd h1 h2 h3 ?_; clear hs hd h1 h2 h3; intro a hs hd h1 h2 h3 h70
  refine opL 1 71 (v := .slice A1 (Mk.monOut lm).length c1) (w' := w) (by kernel_rfl) (frZ hs) ?_ ?_
  · exact frY rfl (k_loadL rfl (ev_tmp h70) (B3.cell 4))
  clear h70; revert hs hd h1 h2 h3; refine frM3 ?_; intro a hs hd h1 h2 h3 h71
  refine opL_call 2 72 (f := 50) (args := #[.slice A1 (Mk.monOut lm).length c1]) (R := fun u w' => u = .tuple #[] ∧ OwnI w' ws.heap.size (.slice A1 (Mk.monOut lm).length c1) ((Mk.monOut lm).mergeSort fun x y => decide (x ≤ y)) ∧ ∀ B b, B ≤ ws.heap.size → Exc B b w w') (by kernel_rfl) (frZ hs) ?z205 (sort_own' oM (by rw [lenM]; omega)) ?z206
  case z205 => exact frY rfl (c_Sort rfl rfl (ev_tmp h71))
  case z206 =>
  rintro _ wa a ⟨rfl, oM, ea⟩ F0
  replace hs := F0.z.trans hs
  replace hd := F0.e.trans hd
  replace h1 := (F0.n 1 (by decide)).trans h1
  replace h2 := (F0.n 2 (by decide)).trans h2
  replace h3 := (F0.n 3 (by decide)).trans h3
  clear h71
  have h72 := F0.s
  clear F0
  replace mb := mb.exc (ea ws.heap.size ws.heap.size (Nat.le_refl _)) (by omega) (by omega)
  replace B3 := B3.exc (ea ws.heap.size ws.heap.size (Nat.le_refl _)) (by omega) (by omega)
  clear ea
  have lenS : ((Mk.monOut lm).mergeSort fun x y => decide (x ≤ y)).length = (Mk.monOut lm).length := List.length_mergeSort _
  refine wp_seq ?_
  refine wp_region (show wpOps _ _ _ [0, 1, 2, 3, 4] _ _ from ?_)
  refine opL 0 73 (v := .pointer (some ⟨(w0.heap.size + 2), 4, none⟩)) (w' := wa) (by kernel_rfl) (frZ hs) ?_ ?_
  · exact frY rfl (k_field4 rfl (ev_tmp h3))
  refine frN3 hs hd h1 h2 h3 ?_; clear hs hd h1 h2 h3 h72; intro a hs hd h1 h2 h3 h73
  refine opL 1 74 (v := .slice A1 (Mk.monOut lm).length c1) (w' := wa) (by kernel_rfl) (frZ hs) ?_ ?_
  · exact frY rfl (k_loadL rfl (ev_tmp h73) (B3.cell 4))
  clear h73; revert hs hd h1 h2 h3; refine frM3 ?_; intro a hs hd h1 h2 h3 h74
  refine opL_call 2 75 (f := 51) (args := #[.slice A1 (Mk.monOut lm).length c1]) (R := fun v w' => OwnI w' ws.heap.size v (Mk.mon lm) ∧ ∀ B b, B ≤ ws.heap.size → Exc B b wa w') (by kernel_rfl) (frZ hs) ?z211 ((compact_own oM (by omega))) ?z212
  case z211 => exact frY rfl (c_Compact rfl rfl (ev_tmp h74))
  case z212 =>
  rintro v' wb a ⟨oM2, eb⟩ F0
  replace hs := F0.z.trans hs
  replace hd := F0.e.trans hd
  replace h1 := (F0.n 1 (by decide)).trans h1
  replace h2 := (F0.n 2 (by decide)).trans h2
  replace h3 := (F0.n 3 (by decide)).trans h3
  clear h74
  have h75 := F0.s
  clear F0
  replace mb := mb.exc (eb ws.heap.size ws.heap.size (Nat.le_refl _)) (by omega) (by omega)
  replace B3 := B3.exc (eb ws.heap.size ws.heap.size (Nat.le_refl _)) (by omega) (by omega)
  obtain ⟨A2, c2, rfl, -, -, -⟩ := oM2.ints
  clear eb oM
  refine opL 3 76 (v := .pointer (some ⟨(w0.heap.size + 2), 4, none⟩)) (w' := wb) (by kernel_rfl) (frZ hs) ?_ ?_
  · exact frY rfl (k_field4 rfl (ev_tmp h3))
  refine frN4 hs hd h1 h2 h3 h75 ?_; clear hs hd h1 h2 h3 h75; intro a hs hd h1 h2 h3 h75 h76
  refine opL_store 4 (w' := (wb.setCell ⟨(w0.heap.size + 2), 4, none⟩ (.slice A2 (Mk.mon lm).length c2))) (by kernel_rfl) ?_ ?_
  · exact frY rfl (k_storeL rfl (ev_tmp h76) (ev_tmp h75) B3 (by simp))
  clear h75
  clear h76
  obtain ⟨w, hww⟩ : ∃ wn, wn = wb.setCell ⟨(w0.heap.size + 2), 4, none⟩ (.slice A2 (Mk.mon lm).length c2) := ⟨_, rfl⟩
  rw [← hww]
  have B3x : Blk w (w0.heap.size + 2) 36 #[.int .i64 (F.tmod 4), .int .i64 (Mk.iv I), .int .i64 (Mk.cnt E C), .int .i64 (Mk.unt E U), .slice A2 (Mk.mon lm).length c2, .slice none 0 0, .slice none 0 0, .slice none 0 0] := by rw [hww]; exact B3.set 4 _
  have ex : ∀ B, Exc B (w0.heap.size + 2) wb w := by rw [hww]; exact exc_set wb (w0.heap.size + 2) 4 _
  clear hww
  have oM : OwnI w ws.heap.size (.slice A2 (Mk.mon lm).length c2) (Mk.mon lm) := oM2.exc (ex wb.heap.size) (fun g hg => ⟨(oM2.lt g hg).2, by have := (oM2.lt g hg).1; omega⟩)
  replace mb := mb.exc (ex wb.heap.size) (by have := mb.sz; omega) (by omega)
  replace B3 := B3x
  clear ex oM2 B3x
  refine wp_seq ?_
  refine wp_region (show wpOps _ _ _ [0] _ _ from ?_)
  refine opL 0 6 (v := .slice none 0 0) (w' := w) (by kernel_rfl) (frZ hs) ?_ ?_
  · exact frY rfl (k_assign rfl rfl)
  refine frN3 hs hd h1 h2 h3 ?_; clear hs hd h1 h2 h3; intro a hs hd h1 h2 h3 h6
  refine wp_seq ?_
  refine wp_seq ?_
  refine wp_region (show wpOps _ _ _ [0, 1, 2, 3] _ _ from ?_)
  refine opL 0 77 (v := .pointer (some ⟨w0.heap.size, 6, none⟩)) (w' := w) (by kernel_rfl) (frZ hs) ?_ ?_
  · exact frY rfl (k_fieldR6 rfl (ev_tmp h1))
  revert hs hd h1 h2 h3 h6; refine frM4 ?_; intro a hs hd h1 h2 h3 h6 h77
  refine opL 1 78 (v := .slice AD ld.length cD) (w' := w) (by kernel_rfl) (frZ hs) ?_ ?_
  · exact frY rfl (k_loadLC rfl (ev_tmp h77) (mb.B1.cell 6))
  clear h77; revert hs hd h1 h2 h3 h6; refine frM4 ?_; intro a hs hd h1 h2 h3 h6 h78
  refine opL 2 79 (v := .int .i64 ld.length) (w' := w) (by kernel_rfl) (frZ hs) ?_ ?_
  · exact frY rfl (k_lenC rfl (ev_tmp h78))
  revert hs hd h1 h2 h3 h6 h78; refine frM5 ?_; intro a hs hd h1 h2 h3 h6 h78 h79
  refine opL 3 80 (v := .int .i64 0) (w' := w) (by kernel_rfl) (frZ hs) ?_ ?_
  · exact frY rfl (k_move rfl rfl)
  revert hs hd h1 h2 h3 h6 h78 h79; refine frM6 ?_; intro a hs hd h1 h2 h3 h6 h78 h79 h80
  refine wp_block ?_
  obtain ⟨wt, hwt⟩ : ∃ wt, wt = w := ⟨_, rfl⟩
  subst hwt
  refine wp_loop (fun a wx => ∃ i A cap, LpI2 wt (.pointer (some ⟨w0.heap.size, 0, none⟩)) (.pointer (some ⟨(w0.heap.size + 1), 0, none⟩)) (.pointer (some ⟨(w0.heap.size + 2), 0, none⟩)) AD cD ld i A cap a wx) (fun a _ => (ld.length - intOf (a.tmps.getD 80 undef)).toNat) ⟨0, none, 0, ⟨hd, hs, h1, h2, h3, h6, h78, h79, h80, Nat.zero_le _, OwnI.nil _ _, Below.refl _ _⟩⟩ ?_
  clear hs hd h1 h2 h3 h6 h78 h79 h80 a
  rintro a w ⟨i, A3, c3, J⟩
  refine mk_round2 wt _ _ _ AD cD ld (hd'.below mb.b) bd ld1 i A3 c3 a w _ J ?_
  rintro rfl a hd hs h1 h2 h3 h6
  rw [List.take_length] at h6
  have oL := J.o
  rw [List.take_length] at oL
  have lt := J.b
  clear J
  replace mb := mb.below lt
  replace B3 := B3.below lt B3.lt
  replace oM := oM.below lt
  clear lt
  change Code.wp _ _ _ _ _
  refine wp_seq ?_
  refine wp_seq ?_
  refine wp_region (show wpOps _ _ _ [0, 1, 2] _ _ from ?_)
  refine opL 0 90 (v := .pointer (some ⟨(w0.heap.size + 2), 0, none⟩)) (w' := w) (by kernel_rfl) (frZ hs) ?_ ?_
  · exact frY rfl (k_field0 rfl (ev_tmp h3))
  refine frN4 hs hd h1 h2 h3 h6 ?_; clear hs hd h1 h2 h3 h6; intro a hs hd h1 h2 h3 h6 h90
  refine opL 1 91 (v := .int .i64 (F.tmod 4)) (w' := w) (by kernel_rfl) (frZ hs) ?_ ?_
  · exact frY rfl (k_loadF rfl (ev_tmp h90) (B3.cell 0))
  clear h90; revert hs hd h1 h2 h3 h6; refine frM4 ?_; intro a hs hd h1 h2 h3 h6 h91
  refine opL 2 92 (v := .bool (F.tmod 4 != 1)) (w' := w) (by kernel_rfl) (frZ hs) ?_ ?_
  · exact frY rfl (o_neF rfl (ev_tmp h91) rfl rfl)
  clear h91; revert hs hd h1 h2 h3 h6; refine frM4 ?_; intro a hs hd h1 h2 h3 h6 h92
  refine cut_at (MS2 w0 #[.int .u8 F, .int .u8 I, .int .u8 E, .int .u16 C, .int .u32 U, .slice AM lm.length cM, .slice AD ld.length cD, .slice AW lw.length cW, .slice AP lp.length cP] (.int .i64 (F.tmod 4)) (.int .i64 (Mk.iv I)) (.int .i64 (Mk.cnt E C)) (.int .i64 (Mk.unt E U)) (Mk.mon lm) (Mk.D F ld)) ?z233 ?z234
  case z233 =>
    cases hF : (F.tmod 4 != 1)
    case false =>
      rw [hF] at h92
      refine wp_cond_false (ev_tmp h92) ?_
      refine wp_skip ?_
      have e : Mk.D F ld = [] := by unfold Mk.D; rw [if_neg (by rw [hF]; decide)]
      rw [e]
      exact ⟨⟨hd, hs, h1, h2, h3⟩, mb, A2, c2, none, 0, w.heap.size, B3, oM.base (by omega), fun g hg => (oM.lt g hg).2, OwnI.nil _ _, mb.sz, Nat.le_refl _⟩
    case true =>
      rw [hF] at h92
      refine wp_cond_true (ev_tmp h92) ?_
      refine wp_region (show wpOps _ _ _ [0, 1, 2, 3] _ _ from ?_)
      refine opL 0 93 (v := .slice A3 ld.length c3) (w' := w) (by kernel_rfl) (frZ hs) ?_ ?_
      · exact frY rfl (k_move rfl (ev_tmp h6))
      refine frN5 hs hd h1 h2 h3 h6 h92 ?_; clear hs hd h1 h2 h3 h6 h92; intro a hs hd h1 h2 h3 h6 h92 h93
      refine opL_call 1 94 (f := 52) (args := #[.slice A3 (ld).length c3, .int .i64 31]) (R := fun v w' => ∃ A cap, v = .slice A (Mk.few 31 ld).length cap ∧ OwnI w' w.heap.size (.slice A (Mk.few 31 ld).length cap) (Mk.few 31 ld) ∧ Below w.heap.size w w') (by kernel_rfl) (frZ hs) ?z237 (few_any' _ 31 A3 c3 ld w oL (by omega) (by omega) (by omega)) ?z238
      case z237 => exact frY rfl (c_Few rfl rfl (ev_tmp h93) rfl)
      case z238 =>
      rintro _ wa a ⟨A4, c4, rfl, oD, la⟩ F0
      replace hs := F0.z.trans hs
      replace hd := F0.e.trans hd
      replace h1 := (F0.n 1 (by decide)).trans h1
      replace h2 := (F0.n 2 (by decide)).trans h2
      replace h3 := (F0.n 3 (by decide)).trans h3
      replace h6 := (F0.n 6 (by decide)).trans h6
      replace h92 := (F0.n 92 (by decide)).trans h92
      clear h93
      have h94 := F0.s
      clear F0
      have mba := mb.below la
      have B3a := B3.below la B3.lt
      have oMa := oM.below la
      refine opL 2 95 (v := .pointer (some ⟨(w0.heap.size + 2), 5, none⟩)) (w' := wa) (by kernel_rfl) (frZ hs) ?_ ?_
      · exact frY rfl (k_field5 rfl (ev_tmp h3))
      refine frN6 hs hd h1 h2 h3 h6 h92 h94 ?_; clear hs hd h1 h2 h3 h6 h92 h94; intro a hs hd h1 h2 h3 h6 h92 h94 h95
      refine opL_store 3 (w' := (wa.setCell ⟨(w0.heap.size + 2), 5, none⟩ (.slice A4 (Mk.few 31 ld).length c4))) (by kernel_rfl) ?_ ?_
      · exact frY rfl (k_storeL rfl (ev_tmp h95) (ev_tmp h94) B3a (by simp))
      clear h94
      clear h95
      obtain ⟨wx, hwwx⟩ : ∃ wn, wn = wa.setCell ⟨(w0.heap.size + 2), 5, none⟩ (.slice A4 (Mk.few 31 ld).length c4) := ⟨_, rfl⟩
      rw [← hwwx]
      have B3x : Blk wx (w0.heap.size + 2) 36 #[.int .i64 (F.tmod 4), .int .i64 (Mk.iv I), .int .i64 (Mk.cnt E C), .int .i64 (Mk.unt E U), .slice A2 (Mk.mon lm).length c2, .slice A4 (Mk.few 31 ld).length c4, .slice none 0 0, .slice none 0 0] := by rw [hwwx]; exact B3a.set 5 _
      have ex : ∀ B, Exc B (w0.heap.size + 2) wa wx := by rw [hwwx]; exact exc_set wa (w0.heap.size + 2) 5 _
      clear hwwx
      have e : Mk.D F ld = Mk.few 31 ld := by unfold Mk.D; rw [if_pos hF]
      rw [e]
      exact ⟨⟨hd, hs, h1, h2, h3⟩, mba.exc (ex wa.heap.size) (by have := mba.sz; omega) (by omega), A2, c2, A4, c4, w.heap.size, B3x, (oMa.base (by omega)).exc (ex wa.heap.size) (fun g hg => ⟨(oMa.lt g hg).2, by have := (oMa.lt g hg).1; omega⟩), fun g hg => (oM.lt g hg).2, oD.exc (ex wa.heap.size) (fun g hg => ⟨(oD.lt g hg).2, by have := (oD.lt g hg).1; have := mb.sz; omega⟩), mb.sz, Nat.le_trans la.size (ex 0).size⟩
  case z234 =>
  clear mb B3 oM oL szs
  clear hs hd h1 h2 h3 h6 h92
  rintro a w ⟨mf, mb, A2, c2, A4, c4, tD, B3, oM, hgM, oD, htD, htD2⟩
  have hd := mf.d
  have hs := mf.z
  have h1 := mf.s1
  have h2 := mf.s2
  have h3 := mf.s3
  clear mf
  refine wp_seq ?_
  refine wp_region (show wpOps _ _ _ [0, 1, 2, 3, 4, 5, 6] _ _ from ?_)
  refine opL 0 96 (v := .slice (some ⟨w.heap.size, 0, none⟩) 4 4) (w' := (w.alloc (.cells #[.int .i64 0, .int .i64 0, .int .i64 5, .int .i64 53] 3))) (by kernel_rfl) (frZ hs) ?_ ?_
  · exact frY rfl (k_slice4 rfl rfl rfl rfl rfl)
  refine frN3 hs hd h1 h2 h3 ?_; clear hs hd h1 h2 h3; intro a hs hd h1 h2 h3 h96
  obtain ⟨wa, hwa⟩ : ∃ wn, wn = w.alloc (.cells #[.int .i64 0, .int .i64 0, .int .i64 5, .int .i64 53] 3) := ⟨_, rfl⟩
  rw [← hwa]
  have qa : Blk wa w.heap.size 3 #[.int .i64 0, .int .i64 0, .int .i64 5, .int .i64 53] := by rw [hwa]; exact Blk.alloc _ _ _
  have la : Below w.heap.size w wa := by rw [hwa]; exact (Below.refl _ _).alloc (Nat.le_refl _) _
  have za : wa.heap.size = w.heap.size + 1 := by rw [hwa]; simp
  clear hwa
  replace mb := mb.below la
  replace B3 := B3.below la B3.lt
  replace oM := oM.below la
  replace oD := oD.below la
  obtain ⟨q, hq, hq4, hcq⟩ := most_at F F0'
  refine opL 1 97 (v := .pointer (some ⟨w0.heap.size, 0, none⟩)) (w' := wa) (by kernel_rfl) (frZ hs) ?_ ?_
  · exact frY rfl (k_fieldR0 rfl (ev_tmp h1))
  refine frN4 hs hd h1 h2 h3 h96 ?_; clear hs hd h1 h2 h3 h96; intro a hs hd h1 h2 h3 h96 h97
  refine opL 2 98 (v := .int .u8 F) (w' := wa) (by kernel_rfl) (frZ hs) ?_ ?_
  · exact frY rfl (k_loadB rfl (ev_tmp h97) (mb.B1.cell 0))
  clear h97; revert hs hd h1 h2 h3 h96; refine frM4 ?_; intro a hs hd h1 h2 h3 h96 h98
  refine opL 3 99 (v := .int .u8 (q : Nat)) (w' := wa) (by kernel_rfl) (frZ hs) ?_ ?_
  · exact frY rfl (o_remB rfl (ev_tmp h98) rfl (by decide) hq)
  clear h98; revert hs hd h1 h2 h3 h96; refine frM4 ?_; intro a hs hd h1 h2 h3 h96 h99
  refine opL 4 100 (v := .pointer (some ⟨w.heap.size, q, none⟩)) (w' := wa) (by kernel_rfl) (frZ hs) ?_ ?_
  · exact frY rfl (k_atB' rfl (ev_tmp h96) (ev_tmp h99) hq4)
  clear h96 h99; revert hs hd h1 h2 h3; refine frM3 ?_; intro a hs hd h1 h2 h3 h100
  refine opL 5 101 (v := .int .i64 (Mk.most F)) (w' := wa) (by kernel_rfl) (frZ hs) ?_ ?_
  · exact frY rfl (k_loadI rfl (ev_tmp h100) ((qa.cell q).trans hcq))
  clear h100; revert hs hd h1 h2 h3; refine frM3 ?_; intro a hs hd h1 h2 h3 h101
  refine opL 6 9 (v := .int .i64 (Mk.most F)) (w' := wa) (by kernel_rfl) (frZ hs) ?_ ?_
  · exact frY rfl (k_assign rfl (ev_tmp h101))
  clear h101; revert hs hd h1 h2 h3; refine frM3 ?_; intro a hs hd h1 h2 h3 h9
  refine wp_seq ?_
  refine wp_seq ?_
  refine wp_region (show wpOps _ _ _ [0, 1, 2, 3] _ _ from ?_)
  refine opL 0 102 (v := .pointer (some ⟨w0.heap.size, 7, none⟩)) (w' := wa) (by kernel_rfl) (frZ hs) ?_ ?_
  · exact frY rfl (k_fieldR7 rfl (ev_tmp h1))
  revert hs hd h1 h2 h3 h9; refine frM4 ?_; intro a hs hd h1 h2 h3 h9 h102
  refine opL 1 103 (v := .slice AW lw.length cW) (w' := wa) (by kernel_rfl) (frZ hs) ?_ ?_
  · exact frY rfl (k_loadLK rfl (ev_tmp h102) (mb.B1.cell 7))
  clear h102; revert hs hd h1 h2 h3 h9; refine frM4 ?_; intro a hs hd h1 h2 h3 h9 h103
  refine opL 2 104 (v := .int .i64 lw.length) (w' := wa) (by kernel_rfl) (frZ hs) ?_ ?_
  · exact frY rfl (k_lenK rfl (ev_tmp h103))
  revert hs hd h1 h2 h3 h9 h103; refine frM5 ?_; intro a hs hd h1 h2 h3 h9 h103 h104
  refine opL 3 105 (v := .int .i64 0) (w' := wa) (by kernel_rfl) (frZ hs) ?_ ?_
  · exact frY rfl (k_move rfl rfl)
  revert hs hd h1 h2 h3 h9 h103 h104; refine frM6 ?_; intro a hs hd h1 h2 h3 h9 h103 h104 h105
  refine wp_block ?_
  have htDs : tD ≤ wa.heap.size := Nat.le_trans htD2 la.size
  clear htD2
  obtain ⟨ws, hws⟩ : ∃ ws, ws = wa := ⟨_, rfl⟩
  subst hws
  refine wp_loop (fun a wx => ∃ i A cap, LpI3 w0 ws (w0.heap.size + 2) (.pointer (some ⟨w0.heap.size, 0, none⟩)) (.pointer (some ⟨(w0.heap.size + 1), 0, none⟩)) (.int .i64 (F.tmod 4)) (.int .i64 (Mk.iv I)) (.int .i64 (Mk.cnt E C)) (.int .i64 (Mk.unt E U)) (.slice A2 (Mk.mon lm).length c2) (.slice A4 (Mk.D F ld).length c4) (Mk.most F) AW cW lw i A cap a wx) (fun a _ => (lw.length - intOf (a.tmps.getD 105 undef)).toNat) ⟨0, none, 0, ⟨hd, hs, h1, h2, h3, h9, h103, h104, h105, Nat.zero_le _, B3, OwnN.nil _ _, Exc.refl _ _ _⟩⟩ ?_
  clear hs hd h1 h2 h3 h9 h103 h104 h105 a
  clear la za qa hq hq4 hcq q w
  have hmo := most_bd F
  rintro a w ⟨i, A5, c5, J⟩
  refine mk_round3 w0 ws (w0.heap.size + 2) _ _ _ _ _ _ _ _ (Mk.most F) AW cW lw hk mb.b (by omega) B3.lt bk lw1 hmo.1 hmo.2 i A5 c5 a w _ (by repeat (first | exact hQ | refine blind_then ?_ | refine blind_block ?_)) J ?_
  rintro rfl a hd hs h1 h2 h3
  have szs := mb.sz
  have gM : ∀ g, (Value.slice A2 (Mk.mon lm).length c2).ownBlock = some g → g < ws.heap.size ∧ g < tD ∧ w0.heap.size + 3 ≤ g := fun g hg => ⟨(oM.lt g hg).2, hgM g hg, (oM.lt g hg).1⟩
  have gD : ∀ g, (Value.slice A4 (Mk.D F ld).length c4).ownBlock = some g → g < ws.heap.size ∧ tD ≤ g := fun g hg => ⟨(oD.lt g hg).2, (oD.lt g hg).1⟩
  replace mb := mb.exc J.e (by omega) (by omega)
  replace B3 := J.B3
  have oW := J.o
  rw [List.take_length] at B3 oW
  replace oM := oM.exc J.e (fun g hg => by have := gM g hg; omega)
  replace oD := oD.exc J.e (fun g hg => by have := gD g hg; omega)
  have lenK := Mk.weekOut_len (Mk.most F) lw lw.length (Nat.le_refl _)
  rw [List.take_length] at lenK
  have hws1 := J.e.size
  clear J
  change Code.wp _ _ _ _ _
  refine wp_seq ?_
  refine wp_region (show wpOps _ _ _ [0, 1, 2] _ _ from ?_)
  refine opL 0 132 (v := .pointer (some ⟨(w0.heap.size + 2), 6, none⟩)) (w' := w) (by kernel_rfl) (frZ hs) ?_ ?_
  · exact frY rfl (k_field6 rfl (ev_tmp h3))
  refine frN3 hs hd h1 h2 h3 ?_; clear hs hd h1 h2 h3; intro a hs hd h1 h2 h3 h132
  refine opL 1 133 (v := .slice A5 ((Mk.weekOut (Mk.most F) lw).map (·.1)).length c5) (w' := w) (by kernel_rfl) (frZ hs) ?_ ?_
  · exact frY rfl (k_loadW rfl (ev_tmp h132) (B3.cell 6))
  clear h132; revert hs hd h1 h2 h3; refine frM3 ?_; intro a hs hd h1 h2 h3 h133
  have hc := sortW_own' oW (by omega)
  have hx := fun ops Q rest d a i h1 h2 h3 => opL_call (P := Tryz.prog) (ops := ops) (Q := Q) (a := a) (w := w) (rest := rest) i d h1 h2 h3 hc
  refine hx _ _ _ 134 _ 2 ?z269a ?z269b ?z269 ?z270
  case z269a => kernel_rfl
  case z269b => (rw [hs]; decide)
  case z269 => exact frY rfl (c_SortN rfl rfl (ev_tmp h133) rfl)
  case z270 =>
  rintro _ wa a ⟨rfl, oW2, ea⟩ F0
  replace hs := F0.z.trans hs
  replace hd := F0.e.trans hd
  replace h1 := (F0.n 1 (by decide)).trans h1
  replace h2 := (F0.n 2 (by decide)).trans h2
  replace h3 := (F0.n 3 (by decide)).trans h3
  clear h133
  have h134 := F0.s
  clear F0
  clear hx hc
  replace mb := mb.exc (ea ws.heap.size ws.heap.size (Nat.le_refl _)) (by omega) (by omega)
  replace B3 := B3.exc (ea ws.heap.size ws.heap.size (Nat.le_refl _)) (by omega) (by omega)
  replace oM := oM.exc (ea ws.heap.size ws.heap.size (Nat.le_refl _)) (fun g hg => by have := gM g hg; omega)
  replace oD := oD.exc (ea ws.heap.size ws.heap.size (Nat.le_refl _)) (fun g hg => by have := gD g hg; omega)
  have hwa : ws.heap.size ≤ wa.heap.size := Nat.le_trans hws1 (ea 0 0 (Nat.zero_le _)).size
  clear ea oW
  rw [show ((Mk.weekOut (Mk.most F) lw).mergeSort fun x y => !ltOf cfW y x) = Mk.W F lw from rfl] at oW2
  have lenW : (((Mk.W F lw).map (·.1))).length = ((Mk.weekOut (Mk.most F) lw).map (·.1)).length := by simp [Mk.W, Mk.weeks]
  rw [← lenW] at B3 oW2
  refine wp_seq ?_
  refine wp_seq ?_
  have oW := oW2
  clear oW2
  have lM := Mk.mon_len lm
  have lD := Mk.D_len F ld
  have lWW := Mk.W_len F lw
  have htW : tD ≤ ws.heap.size := htDs
  have hwb : ws.heap.size ≤ wa.heap.size := hwa
  refine wp_region (show wpOps _ _ _ [0, 1, 2, 3, 4, 5, 6, 7, 8, 9, 10, 11] _ _ from ?_)
  refine opL 0 135 (v := .pointer (some ⟨(w0.heap.size + 2), 4, none⟩)) (w' := wa) (by kernel_rfl) (frZ hs) ?_ ?_
  · exact frY rfl (k_field4 rfl (ev_tmp h3))
  refine frN3 hs hd h1 h2 h3 ?_; clear hs hd h1 h2 h3 h134; intro a hs hd h1 h2 h3 h135
  refine opL 1 136 (v := .slice A2 (Mk.mon lm).length c2) (w' := wa) (by kernel_rfl) (frZ hs) ?_ ?_
  · exact frY rfl (k_loadL rfl (ev_tmp h135) (B3.cell 4))
  clear h135; revert hs hd h1 h2 h3; refine frM3 ?_; intro a hs hd h1 h2 h3 h136
  refine opL 2 137 (v := .int .i64 (Mk.mon lm).length) (w' := wa) (by kernel_rfl) (frZ hs) ?_ ?_
  · exact frY rfl (k_lenL rfl (ev_tmp h136))
  clear h136; revert hs hd h1 h2 h3; refine frM3 ?_; intro a hs hd h1 h2 h3 h137
  refine opL 3 138 (v := .pointer (some ⟨(w0.heap.size + 2), 5, none⟩)) (w' := wa) (by kernel_rfl) (frZ hs) ?_ ?_
  · exact frY rfl (k_field5 rfl (ev_tmp h3))
  revert hs hd h1 h2 h3 h137; refine frM4 ?_; intro a hs hd h1 h2 h3 h137 h138
  refine opL 4 139 (v := .slice A4 (Mk.D F ld).length c4) (w' := wa) (by kernel_rfl) (frZ hs) ?_ ?_
  · exact frY rfl (k_loadL rfl (ev_tmp h138) (B3.cell 5))
  clear h138; revert hs hd h1 h2 h3 h137; refine frM4 ?_; intro a hs hd h1 h2 h3 h137 h139
  refine opL 5 140 (v := .int .i64 (Mk.D F ld).length) (w' := wa) (by kernel_rfl) (frZ hs) ?_ ?_
  · exact frY rfl (k_lenL rfl (ev_tmp h139))
  clear h139; revert hs hd h1 h2 h3 h137; refine frM4 ?_; intro a hs hd h1 h2 h3 h137 h140
  refine opL 6 141 (v := .int .i64 (((Mk.mon lm).length : Int) + (Mk.D F ld).length)) (w' := wa) (by kernel_rfl) (frZ hs) ?_ ?_
  · exact frY rfl (o_addI rfl (ev_tmp h137) (ev_tmp h140) (wrap_small (by omega) (by omega)))
  clear h137 h140; revert hs hd h1 h2 h3; refine frM3 ?_; intro a hs hd h1 h2 h3 h141
  refine opL 7 142 (v := .pointer (some ⟨(w0.heap.size + 2), 6, none⟩)) (w' := wa) (by kernel_rfl) (frZ hs) ?_ ?_
  · exact frY rfl (k_field6 rfl (ev_tmp h3))
  revert hs hd h1 h2 h3 h141; refine frM4 ?_; intro a hs hd h1 h2 h3 h141 h142
  refine opL 8 143 (v := .slice A5 ((Mk.W F lw).map (·.1)).length c5) (w' := wa) (by kernel_rfl) (frZ hs) ?_ ?_
  · exact frY rfl (k_loadW rfl (ev_tmp h142) (B3.cell 6))
  clear h142; revert hs hd h1 h2 h3 h141; refine frM4 ?_; intro a hs hd h1 h2 h3 h141 h143
  refine opL 9 144 (v := .int .i64 ((Mk.W F lw).map (·.1)).length) (w' := wa) (by kernel_rfl) (frZ hs) ?_ ?_
  · exact frY rfl (k_lenW rfl (ev_tmp h143))
  clear h143; revert hs hd h1 h2 h3 h141; refine frM4 ?_; intro a hs hd h1 h2 h3 h141 h144
  refine opL 10 145 (v := .int .i64 (((Mk.mon lm).length : Int) + (Mk.D F ld).length + ((Mk.W F lw).map (·.1)).length)) (w' := wa) (by kernel_rfl) (frZ hs) ?_ ?_
  · exact frY rfl (o_addI rfl (ev_tmp h141) (ev_tmp h144) (wrap_small (by omega) (by omega)))
  clear h141 h144; revert hs hd h1 h2 h3; refine frM3 ?_; intro a hs hd h1 h2 h3 h145
  refine opL 11 146 (v := .bool (decide (0 < (Mk.mon lm).length + (Mk.D F ld).length + ((Mk.W F lw).map (·.1)).length))) (w' := wa) (by kernel_rfl) (frZ hs) ?_ ?_
  · exact frY rfl (o_gtI rfl (ev_tmp h145) rfl (by rw [Bool.eq_iff_iff]; simp only [decide_eq_true_eq]; omega))
  clear h145; revert hs hd h1 h2 h3; refine frM3 ?_; intro a hs hd h1 h2 h3 h146
  refine cut_at (MS3 w0 #[.int .u8 F, .int .u8 I, .int .u8 E, .int .u16 C, .int .u32 U, .slice AM lm.length cM, .slice AD ld.length cD, .slice AW lw.length cW, .slice AP lp.length cP] (.int .i64 (F.tmod 4)) (.int .i64 (Mk.iv I)) (.int .i64 (Mk.cnt E C)) (.int .i64 (Mk.unt E U)) (Mk.mon lm) (Mk.D F ld) ((Mk.W F lw).map (·.1)) (Mk.P F lm ld lw lp)) ?z295 ?z296
  case z295 =>
    cases hN : decide (0 < (Mk.mon lm).length + (Mk.D F ld).length + ((Mk.W F lw).map (·.1)).length)
    case false =>
      rw [hN] at h146
      refine wp_cond_false (ev_tmp h146) ?_
      refine wp_skip ?_
      have e : Mk.P F lm ld lw lp = [] := by unfold Mk.P; rw [if_neg (by rw [hN]; decide)]
      rw [e]
      exact ⟨⟨hd, hs, h1, h2, h3⟩, mb, A2, A4, A5, none, c2, c4, c5, 0, tD, ws.heap.size, wa.heap.size, B3, ⟨oM, fun g hg => (gM g hg).2.1, oD, fun g hg => (gD g hg).1, oW, fun g hg => (oW.lt g hg).2, OwnI.nil _ _, htD, htW, hwb⟩⟩
    case true =>
      rw [hN] at h146
      refine wp_cond_true (ev_tmp h146) ?_
      clear h146
      refine wp_seq ?_
      refine wp_region (show wpOps _ _ _ [0] _ _ from ?_)
      refine opL 0 6 (v := .slice none 0 0) (w' := wa) (by kernel_rfl) (frZ hs) ?_ ?_
      · exact frY rfl (k_assign rfl rfl)
      refine frN3 hs hd h1 h2 h3 ?_; clear hs hd h1 h2 h3; intro a hs hd h1 h2 h3 h6
      refine wp_seq ?_
      refine wp_seq ?_
      refine wp_region (show wpOps _ _ _ [0, 1, 2, 3] _ _ from ?_)
      refine opL 0 147 (v := .pointer (some ⟨w0.heap.size, 8, none⟩)) (w' := wa) (by kernel_rfl) (frZ hs) ?_ ?_
      · exact frY rfl (k_fieldR8 rfl (ev_tmp h1))
      revert hs hd h1 h2 h3 h6; refine frM4 ?_; intro a hs hd h1 h2 h3 h6 h147
      refine opL 1 148 (v := .slice AP lp.length cP) (w' := wa) (by kernel_rfl) (frZ hs) ?_ ?_
      · exact frY rfl (k_loadLS rfl (ev_tmp h147) (mb.B1.cell 8))
      clear h147; revert hs hd h1 h2 h3 h6; refine frM4 ?_; intro a hs hd h1 h2 h3 h6 h148
      refine opL 2 149 (v := .int .i64 lp.length) (w' := wa) (by kernel_rfl) (frZ hs) ?_ ?_
      · exact frY rfl (k_lenS rfl (ev_tmp h148))
      revert hs hd h1 h2 h3 h6 h148; refine frM5 ?_; intro a hs hd h1 h2 h3 h6 h148 h149
      refine opL 3 150 (v := .int .i64 0) (w' := wa) (by kernel_rfl) (frZ hs) ?_ ?_
      · exact frY rfl (k_move rfl rfl)
      revert hs hd h1 h2 h3 h6 h148 h149; refine frM6 ?_; intro a hs hd h1 h2 h3 h6 h148 h149 h150
      refine wp_block ?_
      obtain ⟨wt, hwt⟩ : ∃ wt, wt = wa := ⟨_, rfl⟩
      subst hwt
      refine wp_loop (fun a wx => ∃ i A cap, LpI4 wt (.pointer (some ⟨w0.heap.size, 0, none⟩)) (.pointer (some ⟨(w0.heap.size + 1), 0, none⟩)) (.pointer (some ⟨(w0.heap.size + 2), 0, none⟩)) AP cP lp i A cap a wx) (fun a _ => (lp.length - intOf (a.tmps.getD 150 undef)).toNat) ⟨0, none, 0, ⟨hd, hs, h1, h2, h3, h6, h148, h149, h150, Nat.zero_le _, OwnI.nil _ _, Below.refl _ _⟩⟩ ?_
      clear hs hd h1 h2 h3 h6 h148 h149 h150 a
      rintro a w ⟨i, A6, c6, J⟩
      refine mk_round4 wt _ _ _ AP cP lp (hp.below mb.b) bp lp1 i A6 c6 a w _ J ?_
      rintro rfl a hd hs h1 h2 h3 h6
      rw [List.take_length] at h6
      have oL := J.o
      rw [List.take_length] at oL
      have lt := J.b
      clear J
      replace mb := mb.below lt
      replace B3 := B3.below lt B3.lt
      replace oM := oM.below lt
      replace oD := oD.below lt
      replace oW := oW.below lt
      replace hwb := Nat.le_trans hwb lt.size
      clear lt
      change Code.wp _ _ _ _ _
      refine wp_region (show wpOps _ _ _ [0, 1, 2, 3] _ _ from ?_)
      refine opL 0 160 (v := .slice A6 lp.length c6) (w' := w) (by kernel_rfl) (frZ hs) ?_ ?_
      · exact frY rfl (k_move rfl (ev_tmp h6))
      refine frN4 hs hd h1 h2 h3 h6 ?_; clear hs hd h1 h2 h3 h6; intro a hs hd h1 h2 h3 h6 h160
      refine opL_call 1 161 (f := 52) (args := #[.slice A6 (lp).length c6, .int .i64 366]) (R := fun v w' => ∃ A cap, v = .slice A (Mk.few 366 lp).length cap ∧ OwnI w' w.heap.size (.slice A (Mk.few 366 lp).length cap) (Mk.few 366 lp) ∧ Below w.heap.size w w') (by kernel_rfl) (frZ hs) ?z309 (few_any' _ 366 A6 c6 lp w oL (by omega) (by omega) (by omega)) ?z310
      case z309 => exact frY rfl (c_Few rfl rfl (ev_tmp h160) rfl)
      case z310 =>
      rintro _ wa a ⟨A7, c7, rfl, oP, la⟩ F0
      replace hs := F0.z.trans hs
      replace hd := F0.e.trans hd
      replace h1 := (F0.n 1 (by decide)).trans h1
      replace h2 := (F0.n 2 (by decide)).trans h2
      replace h3 := (F0.n 3 (by decide)).trans h3
      replace h6 := (F0.n 6 (by decide)).trans h6
      clear h160
      have h161 := F0.s
      clear F0
      have mba := mb.below la
      have B3a := B3.below la B3.lt
      have oMa := oM.below la
      have oDa := oD.below la
      have oWa := oW.below la
      refine opL 2 162 (v := .pointer (some ⟨(w0.heap.size + 2), 7, none⟩)) (w' := wa) (by kernel_rfl) (frZ hs) ?_ ?_
      · exact frY rfl (k_field7 rfl (ev_tmp h3))
      refine frN5 hs hd h1 h2 h3 h6 h161 ?_; clear hs hd h1 h2 h3 h6 h161; intro a hs hd h1 h2 h3 h6 h161 h162
      refine opL_store 3 (w' := (wa.setCell ⟨(w0.heap.size + 2), 7, none⟩ (.slice A7 (Mk.few 366 lp).length c7))) (by kernel_rfl) ?_ ?_
      · exact frY rfl (k_storeL rfl (ev_tmp h162) (ev_tmp h161) B3a (by simp))
      clear h161
      clear h162
      obtain ⟨wx, hwwx⟩ : ∃ wn, wn = wa.setCell ⟨(w0.heap.size + 2), 7, none⟩ (.slice A7 (Mk.few 366 lp).length c7) := ⟨_, rfl⟩
      rw [← hwwx]
      have B3x : Blk wx (w0.heap.size + 2) 36 #[.int .i64 (F.tmod 4), .int .i64 (Mk.iv I), .int .i64 (Mk.cnt E C), .int .i64 (Mk.unt E U), .slice A2 (Mk.mon lm).length c2, .slice A4 (Mk.D F ld).length c4, .slice A5 ((Mk.W F lw).map (·.1)).length c5, .slice A7 (Mk.few 366 lp).length c7] := by rw [hwwx]; exact B3a.set 7 _
      have ex : ∀ B, Exc B (w0.heap.size + 2) wa wx := by rw [hwwx]; exact exc_set wa (w0.heap.size + 2) 7 _
      clear hwwx
      have e : Mk.P F lm ld lw lp = Mk.few 366 lp := by unfold Mk.P; rw [if_pos hN]
      rw [e]
      exact ⟨⟨hd, hs, h1, h2, h3⟩, mba.exc (ex wa.heap.size) (by have := mba.sz; omega) (by omega), A2, A4, A5, A7, c2, c4, c5, c7, tD, ws.heap.size, w.heap.size, B3x, ⟨oMa.exc (ex wa.heap.size) (fun g hg => ⟨(oMa.lt g hg).2, by have := (oMa.lt g hg).1; omega⟩), fun g hg => (gM g hg).2.1, oDa.exc (ex wa.heap.size) (fun g hg => ⟨(oDa.lt g hg).2, by have := (oDa.lt g hg).1; omega⟩), fun g hg => (gD g hg).1, oWa.exc (ex wa.heap.size) (fun g hg => ⟨(oWa.lt g hg).2, by have := (oWa.lt g hg).1; omega⟩), fun g hg => (oW.lt g hg).2, oP.exc (ex wa.heap.size) (fun g hg => ⟨(oP.lt g hg).2, by have := (oP.lt g hg).1; have := mb.sz; omega⟩), htD, htW, hwb⟩⟩
  case z296 =>
  clear hs hd h1 h2 h3 h146
  rintro a w' ⟨mf, mb', B1, B2, B4, B5, d1, d2, d3, d4, uD, uW, uP, B3', f4⟩
  have hd := mf.d
  have hs := mf.z
  have h1 := mf.s1
  have h2 := mf.s2
  have h3 := mf.s3
  clear mf
  refine wp_seq ?_
  refine wp_region (show wpOps _ _ _ [0, 1] _ _ from ?_)
  refine opL 0 163 (v := .agg #[.int .i64 (F.tmod 4), .int .i64 (Mk.iv I), .int .i64 (Mk.cnt E C), .int .i64 (Mk.unt E U), .slice B1 (Mk.mon lm).length d1, .slice B2 (Mk.D F ld).length d2, .slice B4 ((Mk.W F lw).map (·.1)).length d3, .slice B5 (Mk.P F lm ld lw lp).length d4]) (w' := w') (by kernel_rfl) (frZ hs) ?_ ?_
  · exact frY rfl (k_loadR rfl (ev_tmp h3) B3'.rule)
  refine frN3 hs hd h1 h2 h3 ?_; clear hs hd h1 h2 h3; intro a hs hd h1 h2 h3 h163
  refine opL_store 1 (w' := (w'.setRow (w0.heap.size + 1) #[.int .i64 (F.tmod 4), .int .i64 (Mk.iv I), .int .i64 (Mk.cnt E C), .int .i64 (Mk.unt E U), .slice B1 (Mk.mon lm).length d1, .slice B2 (Mk.D F ld).length d2, .slice B4 ((Mk.W F lw).map (·.1)).length d3, .slice B5 (Mk.P F lm ld lw lp).length d4])) (by kernel_rfl) ?_ ?_
  · exact frY rfl (k_storeR rfl (ev_tmp h2) (ev_tmp h163) mb'.B2 rfl rfl (by simp [Value.oneCell']))
  clear h163
  have q := (mb'.B2.setRow (cs := #[.int .i64 (F.tmod 4), .int .i64 (Mk.iv I), .int .i64 (Mk.cnt E C), .int .i64 (Mk.unt E U), .slice B1 (Mk.mon lm).length d1, .slice B2 (Mk.D F ld).length d2, .slice B4 ((Mk.W F lw).map (·.1)).length d3, .slice B5 (Mk.P F lm ld lw lp).length d4]))
  have eq := exc_setRow w' (w0.heap.size + 1) #[.int .i64 (F.tmod 4), .int .i64 (Mk.iv I), .int .i64 (Mk.cnt E C), .int .i64 (Mk.unt E U), .slice B1 (Mk.mon lm).length d1, .slice B2 (Mk.D F ld).length d2, .slice B4 ((Mk.W F lw).map (·.1)).length d3, .slice B5 (Mk.P F lm ld lw lp).length d4]
  refine wp_ret ?_
  exact hfin a _ B1 B2 B4 B5 d1 d2 d3 d4 uD uW uP hd h2 q ⟨(f4.oM.base (by omega)).exc (eq w'.heap.size) (fun g hg => ⟨(f4.oM.lt g hg).2, by have := (f4.oM.lt g hg).1; omega⟩), f4.gM, f4.oD.exc (eq w'.heap.size) (fun g hg => ⟨(f4.oD.lt g hg).2, by have := (f4.oD.lt g hg).1; have := f4.hD; omega⟩), f4.gD, f4.oW.exc (eq w'.heap.size) (fun g hg => ⟨(f4.oW.lt g hg).2, by have := (f4.oW.lt g hg).1; have := f4.hD; have := f4.hW; omega⟩), f4.gW, f4.oP.exc (eq w'.heap.size) (fun g hg => ⟨(f4.oP.lt g hg).2, by have := (f4.oP.lt g hg).1; have := f4.hD; have := f4.hW; have := f4.hP; omega⟩), by have := f4.hD; omega, f4.hW, f4.hP⟩ (mb'.b.trans ((eq w0.heap.size).below (by omega)))
end Go.Proofs.YtnggajehngemmaaGreatDoor
