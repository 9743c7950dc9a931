/-
  The operations of the law's Make, known by their text.
-/
import Derived.Test.YtnggajehngemmaaGreatDoorKop
import Derived.Test.YtnggajehngemmaaGreatDoorApp
import Derived.Test.YtnggajehngemmaaGreatDoorFew
namespace Go.Proofs.YtnggajehngemmaaGreatDoor
open Go.RowKit
section
variable {w : World} {ρ : Operand → Value} {o : Oper} {x y : Operand} {b i n k c : Nat} {m p q : Int} {A : Option Addr} {ad : Addr} {v : Value}
theorem k_fieldR0 (ho : o.op = .fieldAddr 29 x 0) (hx : ρ x = .pointer (some ⟨b, 0, none⟩)) : (execOp ρ o).run Tryz.prog w = .ok (.value (.pointer (some ⟨b, 0, none⟩))) w := by
  simp only [execOp, ho, hx]
  go_simp
theorem k_fieldR1 (ho : o.op = .fieldAddr 29 x 1) (hx : ρ x = .pointer (some ⟨b, 0, none⟩)) : (execOp ρ o).run Tryz.prog w = .ok (.value (.pointer (some ⟨b, 1, none⟩))) w := by
  simp only [execOp, ho, hx]
  go_simp
theorem k_fieldR2 (ho : o.op = .fieldAddr 29 x 2) (hx : ρ x = .pointer (some ⟨b, 0, none⟩)) : (execOp ρ o).run Tryz.prog w = .ok (.value (.pointer (some ⟨b, 2, none⟩))) w := by
  simp only [execOp, ho, hx]
  go_simp
theorem k_fieldR3 (ho : o.op = .fieldAddr 29 x 3) (hx : ρ x = .pointer (some ⟨b, 0, none⟩)) : (execOp ρ o).run Tryz.prog w = .ok (.value (.pointer (some ⟨b, 3, none⟩))) w := by
  simp only [execOp, ho, hx]
  go_simp
theorem k_fieldR4 (ho : o.op = .fieldAddr 29 x 4) (hx : ρ x = .pointer (some ⟨b, 0, none⟩)) : (execOp ρ o).run Tryz.prog w = .ok (.value (.pointer (some ⟨b, 4, none⟩))) w := by
  simp only [execOp, ho, hx]
  go_simp
theorem k_fieldR5 (ho : o.op = .fieldAddr 29 x 5) (hx : ρ x = .pointer (some ⟨b, 0, none⟩)) : (execOp ρ o).run Tryz.prog w = .ok (.value (.pointer (some ⟨b, 5, none⟩))) w := by
  simp only [execOp, ho, hx]
  go_simp
theorem k_fieldR6 (ho : o.op = .fieldAddr 29 x 6) (hx : ρ x = .pointer (some ⟨b, 0, none⟩)) : (execOp ρ o).run Tryz.prog w = .ok (.value (.pointer (some ⟨b, 6, none⟩))) w := by
  simp only [execOp, ho, hx]
  go_simp
theorem k_fieldR7 (ho : o.op = .fieldAddr 29 x 7) (hx : ρ x = .pointer (some ⟨b, 0, none⟩)) : (execOp ρ o).run Tryz.prog w = .ok (.value (.pointer (some ⟨b, 7, none⟩))) w := by
  simp only [execOp, ho, hx]
  go_simp
theorem k_fieldR8 (ho : o.op = .fieldAddr 29 x 8) (hx : ρ x = .pointer (some ⟨b, 0, none⟩)) : (execOp ρ o).run Tryz.prog w = .ok (.value (.pointer (some ⟨b, 8, none⟩))) w := by
  simp only [execOp, ho, hx]
  go_simp
theorem k_fieldW0 (ho : o.op = .fieldAddr 59 x 0) (hx : ρ x = .pointer (some ⟨b, 0, none⟩)) : (execOp ρ o).run Tryz.prog w = .ok (.value (.pointer (some ⟨b, 0, none⟩))) w := by
  simp only [execOp, ho, hx]
  go_simp
theorem k_fieldW1 (ho : o.op = .fieldAddr 59 x 1) (hx : ρ x = .pointer (some ⟨b, 0, none⟩)) : (execOp ρ o).run Tryz.prog w = .ok (.value (.pointer (some ⟨b, 1, none⟩))) w := by
  simp only [execOp, ho, hx]
  go_simp
theorem k_fieldNth0 (ho : o.op = .fieldAddr 51 x 0) (hx : ρ x = .pointer (some ⟨b, 0, none⟩)) : (execOp ρ o).run Tryz.prog w = .ok (.value (.pointer (some ⟨b, 0, none⟩))) w := by
  simp only [execOp, ho, hx]
  go_simp
theorem k_fieldNth1 (ho : o.op = .fieldAddr 51 x 1) (hx : ρ x = .pointer (some ⟨b, 0, none⟩)) : (execOp ρ o).run Tryz.prog w = .ok (.value (.pointer (some ⟨b, 1, none⟩))) w := by
  simp only [execOp, ho, hx]
  go_simp
theorem k_loadB (ho : o.op = .load 5 x) (hx : ρ x = .pointer (some ad)) (hc : w.cell? ad = some (.int .u8 m)) : (execOp ρ o).run Tryz.prog w = .ok (.value (.int .u8 m)) w := by
  simp only [execOp, ho, hx]
  go_simp
theorem k_loadH (ho : o.op = .load 22 x) (hx : ρ x = .pointer (some ad)) (hc : w.cell? ad = some (.int .u16 m)) : (execOp ρ o).run Tryz.prog w = .ok (.value (.int .u16 m)) w := by
  simp only [execOp, ho, hx]
  go_simp
theorem k_loadQ (ho : o.op = .load 23 x) (hx : ρ x = .pointer (some ad)) (hc : w.cell? ad = some (.int .u32 m)) : (execOp ρ o).run Tryz.prog w = .ok (.value (.int .u32 m)) w := by
  simp only [execOp, ho, hx]
  go_simp
theorem k_loadC (ho : o.op = .load 57 x) (hx : ρ x = .pointer (some ad)) (hc : w.cell? ad = some (.int .i8 m)) : (execOp ρ o).run Tryz.prog w = .ok (.value (.int .i8 m)) w := by
  simp only [execOp, ho, hx]
  go_simp
theorem k_loadS (ho : o.op = .load 80 x) (hx : ρ x = .pointer (some ad)) (hc : w.cell? ad = some (.int .i16 m)) : (execOp ρ o).run Tryz.prog w = .ok (.value (.int .i16 m)) w := by
  simp only [execOp, ho, hx]
  go_simp
theorem k_loadLB (ho : o.op = .load 24 x) (hx : ρ x = .pointer (some ad)) (hc : w.cell? ad = some (.slice A n c)) : (execOp ρ o).run Tryz.prog w = .ok (.value (.slice A n c)) w := by
  simp only [execOp, ho, hx]
  go_simp
theorem k_lenB (ho : o.op = .call ⟨.builtin .len, #[x], #[24]⟩) (hx : ρ x = .slice A n c) : (execOp ρ o).run Tryz.prog w = .ok (.value (.int .i64 n)) w := by
  simp only [execOp, ho]
  go_simp
theorem k_atB (ho : o.op = .indexAddr 24 x y) (hx : ρ x = .slice (some ad) k c) (hy : ρ y = .int .i64 i) (hi : i < k) : (execOp ρ o).run Tryz.prog w = .ok (.value (.pointer (some (ad.add i)))) w := by
  simp only [execOp, ho]
  go_simp
theorem k_loadLC (ho : o.op = .load 25 x) (hx : ρ x = .pointer (some ad)) (hc : w.cell? ad = some (.slice A n c)) : (execOp ρ o).run Tryz.prog w = .ok (.value (.slice A n c)) w := by
  simp only [execOp, ho, hx]
  go_simp
theorem k_lenC (ho : o.op = .call ⟨.builtin .len, #[x], #[25]⟩) (hx : ρ x = .slice A n c) : (execOp ρ o).run Tryz.prog w = .ok (.value (.int .i64 n)) w := by
  simp only [execOp, ho]
  go_simp
theorem k_atC (ho : o.op = .indexAddr 25 x y) (hx : ρ x = .slice (some ad) k c) (hy : ρ y = .int .i64 i) (hi : i < k) : (execOp ρ o).run Tryz.prog w = .ok (.value (.pointer (some (ad.add i)))) w := by
  simp only [execOp, ho]
  go_simp
theorem k_loadLK (ho : o.op = .load 26 x) (hx : ρ x = .pointer (some ad)) (hc : w.cell? ad = some (.slice A n c)) : (execOp ρ o).run Tryz.prog w = .ok (.value (.slice A n c)) w := by
  simp only [execOp, ho, hx]
  go_simp
theorem k_lenK (ho : o.op = .call ⟨.builtin .len, #[x], #[26]⟩) (hx : ρ x = .slice A n c) : (execOp ρ o).run Tryz.prog w = .ok (.value (.int .i64 n)) w := by
  simp only [execOp, ho]
  go_simp
theorem k_atK (ho : o.op = .indexAddr 26 x y) (hx : ρ x = .slice (some ad) k c) (hy : ρ y = .int .i64 i) (hi : i < k) : (execOp ρ o).run Tryz.prog w = .ok (.value (.pointer (some (ad.add (i * 2))))) w := by
  simp only [execOp, ho]
  go_simp
theorem k_loadLS (ho : o.op = .load 27 x) (hx : ρ x = .pointer (some ad)) (hc : w.cell? ad = some (.slice A n c)) : (execOp ρ o).run Tryz.prog w = .ok (.value (.slice A n c)) w := by
  simp only [execOp, ho, hx]
  go_simp
theorem k_lenS (ho : o.op = .call ⟨.builtin .len, #[x], #[27]⟩) (hx : ρ x = .slice A n c) : (execOp ρ o).run Tryz.prog w = .ok (.value (.int .i64 n)) w := by
  simp only [execOp, ho]
  go_simp
theorem k_atS (ho : o.op = .indexAddr 27 x y) (hx : ρ x = .slice (some ad) k c) (hy : ρ y = .int .i64 i) (hi : i < k) : (execOp ρ o).run Tryz.prog w = .ok (.value (.pointer (some (ad.add i)))) w := by
  simp only [execOp, ho]
  go_simp
theorem k_loadKs (ho : o.op = .load 59 x) (hx : ρ x = .pointer (some ad)) (h0 : w.cell? ad = some (.int .i8 m)) (h1 : w.cell? (ad.add 1) = some (.int .u8 p)) : (execOp ρ o).run Tryz.prog w = .ok (.value (.agg #[.int .i8 m, .int .u8 p])) w := by
  have h1' : w.cell? ⟨ad.block, ad.off + 1, none⟩ = some (.int .u8 p) := by simpa [Addr.add] using h1
  simp only [execOp, ho, hx]
  go_simp
theorem k_loadNs (ho : o.op = .load 51 x) (hx : ρ x = .pointer (some ⟨b, 0, none⟩)) (h : Blk w b 51 #[.int .i64 m, .int .i64 p]) : (execOp ρ o).run Tryz.prog w = .ok (.value (.agg #[.int .i64 m, .int .i64 p])) w := by
  have h0 := h.cell 0
  have h1 := h.cell 1
  simp only [execOp, ho, hx]
  go_simp
theorem k_box9 {cs : Array Value} (ho : o.op = .box 29 x) (hx : ρ x = .agg cs) : (execOp ρ o).run Tryz.prog w = .ok (.value (.pointer (some ⟨w.heap.size, 0, none⟩))) (w.alloc (.cells cs 29)) := by
  simp only [execOp, ho, hx]
  go_simp
theorem k_allocK (ho : o.op = .alloc 59) : (execOp ρ o).run Tryz.prog w = .ok (.value (.pointer (some ⟨w.heap.size, 0, none⟩))) (w.alloc (.cells #[.int .i8 0, .int .u8 0] 59)) := by
  simp only [execOp, ho]
  go_simp
theorem k_allocN (ho : o.op = .alloc 51) : (execOp ρ o).run Tryz.prog w = .ok (.value (.pointer (some ⟨w.heap.size, 0, none⟩))) (w.alloc (.cells #[.int .i64 0, .int .i64 0] 51)) := by
  simp only [execOp, ho]
  go_simp
theorem k_storeS2 {T : TypeId} {old cs : Array Value} (ho : o.op = .store T x y) (hx : ρ x = .pointer (some ⟨b, 0, none⟩)) (hy : ρ y = .agg cs) (hb : Blk w b T old) (hT : (Tryz.prog.info? T).map (·.size) = some 2) (h8 : cs.size = 2) (ho8 : old.size = 2) (h1 : cs.all (·.oneCell') = true) :
    (execOp ρ o).run Tryz.prog w = .ok .skip (w.setRow b cs) := by
  have hr := run_storeVar_row (P := Tryz.prog) w b T T old cs hb (by rw [h8]; exact hT) (by rw [ho8, h8]) h1
  simp only [execOp, ho, hx, hy, Instr.storeAt, Instr.sureAddr, Sem.run_bind, Sem.run_pure, Result.andThen_ok, hr]
theorem k_slice4 {z1 z2 z3 z4 : Operand} {m1 m2 m3 m4 : Int} (ho : o.op = .buildSlice 33 4 #[(0, z1), (1, z2), (2, z3), (3, z4)]) (h1 : ρ z1 = .int .i64 m1) (h2 : ρ z2 = .int .i64 m2) (h3 : ρ z3 = .int .i64 m3) (h4 : ρ z4 = .int .i64 m4) :
    (execOp ρ o).run Tryz.prog w = .ok (.value (.slice (some ⟨w.heap.size, 0, none⟩) 4 4)) (w.alloc (.cells #[.int .i64 m1, .int .i64 m2, .int .i64 m3, .int .i64 m4] 3)) := by
  simp only [execOp, ho]
  go_simp
theorem k_atB' (ho : o.op = .indexAddr 33 x y) (hx : ρ x = .slice (some ⟨b, 0, none⟩) k c) (hy : ρ y = .int .u8 i) (hi : i < k) : (execOp ρ o).run Tryz.prog w = .ok (.value (.pointer (some ⟨b, i, none⟩))) w := by
  simp only [execOp, ho]
  go_simp
end
end Go.Proofs.YtnggajehngemmaaGreatDoor
/-
  The law's Make: the rounds of its loops over numbers.
-/
namespace Go.Proofs.YtnggajehngemmaaGreatDoor
open Go.RowKit
/-- the loops' bodies of a text, in order -/
def loopsM : Code → List Code
  | .loop c => c :: loopsM c
  | .seq x y => loopsM x ++ loopsM y
  | .cond _ x y => loopsM x ++ loopsM y
  | .block _ c => loopsM c
  | .scope c => loopsM c
  | _ => []

structure LpI2 (ws : World) (p1 p2 p3 : Value) (A0 : Option Addr) (c0 : Nat) (l : List Int) (i : Nat) (A : Option Addr) (cap : Nat) (a : Act) (w : World) : Prop where
  d : a.defers = []
  z : a.tmps.size = 164
  s1 : a.tmps.getD 1 undef = p1
  s2 : a.tmps.getD 2 undef = p2
  s3 : a.tmps.getD 3 undef = p3
  s6 : a.tmps.getD 6 undef = .slice A (l.take i).length cap
  sl : a.tmps.getD 78 undef = .slice A0 l.length c0
  ln : a.tmps.getD 79 undef = .int .i64 l.length
  ix : a.tmps.getD 80 undef = .int .i64 i
  iN : i ≤ l.length
  o : OwnI w ws.heap.size (.slice A (l.take i).length cap) (l.take i)
  b : Below ws.heap.size ws w
noncomputable def mkRound2 : Code := ((Tryz.f29.body.map loopsM).getD []).getD 1 .skip

set_option maxRecDepth 100000 in
set_option maxHeartbeats 1000000 in
theorem mk_round2 (ws : World) (p1 p2 p3 : Value) (A0 : Option Addr) (c0 : Nat) (l : List Int) (hsrc : NumsIn .i8 ws A0 l) (hbd : ∀ x ∈ l, -128 ≤ x ∧ x ≤ 127) (hl : l.length ≤ 1000) (i : Nat) (A : Option Addr) (cap : Nat) (a : Act) (w : World) (Q : Exit → Act → World → Prop)
    (J : LpI2 ws p1 p2 p3 A0 c0 l i A cap a w) (hend : i = l.length → ∀ a' : Act, a'.defers = [] → a'.tmps.size = 164 → a'.tmps.getD 1 undef = p1 → a'.tmps.getD 2 undef = p2 → a'.tmps.getD 3 undef = p3 → a'.tmps.getD 6 undef = .slice A (l.take i).length cap → Q (.exit 3) a' w) :
    mkRound2.wp Tryz.prog (Exit.then (fun a' w' => (∃ i A cap, LpI2 ws p1 p2 p3 A0 c0 l i A cap a' w') ∧ (l.length - intOf (a'.tmps.getD 80 undef)).toNat < (l.length - intOf (a.tmps.getD 80 undef)).toNat) Q) a w := by
  have hd := J.d
  have hs := J.z
  have h1 := J.s1
  have h2 := J.s2
  have h3 := J.s3
  have h6 := J.s6
  have h78 := J.sl
  have h79 := J.ln
  have h80 := J.ix
  have kk := (((((((kn hs hd).p h1).p h2).p h3).p h6).p h78).p h79).p h80; clear hs hd h1 h2 h3 h6 h78 h79 h80
  have hiN := J.iN; have hO := J.o; have hb := J.b
  have k10 : (l.length - intOf (a.tmps.getD 80 undef)).toNat = (l.length - (i : Int)).toNat := by rw [(kk.g 80 rfl)]; rfl
  rw [k10]
  clear k10 J
  unfold mkRound2
  conv => arg 2; whnf
  by_cases hlt : i < l.length
  ·
    clear hend
    obtain ⟨ad, rfl, -, hc⟩ := (hsrc.below hb) i hlt
    have hx := hbd l[i] (List.getElem_mem hlt)
    refine wp_seq ?_
    refine wpr 1 ?_
    refine opk 0 81 (v := .bool true) kk (frY rfl (o_ltI rfl (kk.e 80 rfl) (kk.e 79 rfl) (decide_eq_true (by omega)))) ?_; clear kk; intro a kk
    refine wp_seq ?_
    refine wp_cond_true (kk.e 81 rfl) ?_
    refine wp_skip ?_
    refine wp_seq ?_
    refine wp_block ?_
    refine wp_seq ?_
    refine wpr 3 ?_
    refine opk 0 82 (v := .pointer (some (ad.add i))) kk (frY rfl (k_atC rfl (kk.e 78 rfl) (kk.e 80 rfl) hlt)) ?_; clear kk; intro a kk
    refine opk 1 83 (v := .int .i8 l[i]) kk (frY rfl (k_loadC rfl (kk.e 82 rfl) hc)) ?_; clear kk; intro a kk
    refine opk 2 8 kk (frY rfl (k_assign rfl (kk.e 83 rfl))) ?_; clear kk; intro a kk
    refine wpr 6 ?_
    refine opk 0 84 kk (frY rfl (k_move rfl (kk.e 6 rfl))) ?_; clear kk; intro a kk
    refine opk 1 85 kk (frY rfl (k_move rfl (kk.e 8 rfl))) ?_; clear kk; intro a kk
    refine opk 2 86 (v := .int .i64 l[i]) kk (frY rfl (o_convCI rfl (kk.e 85 rfl) (wrap_small (by omega) (by omega)))) ?_; clear kk; intro a kk
    refine opk 3 87 (v := .slice (some ⟨w.heap.size, 0, none⟩) 1 1) (w' := (w.alloc (.cells #[.int .i64 l[i]] 3))) kk (frY rfl (k_slice1 rfl (kk.e 86 rfl))) ?_; clear kk; intro a kk
    obtain ⟨w1, hw1⟩ : ∃ w1, w1 = w.alloc (.cells #[.int .i64 l[i]] 3) := ⟨_, rfl⟩
    rw [← hw1]
    have q1 : Blk w1 w.heap.size 3 #[.int .i64 l[i]] := by rw [hw1]; exact Blk.alloc _ _ _
    have l1 : Below w.heap.size w w1 := by rw [hw1]; exact (Below.refl _ _).alloc (Nat.le_refl _) _
    have hO1 := hO.below l1
    have hl1 : ws.heap.size ≤ w1.heap.size := Nat.le_trans hb.size l1.size
    clear hw1
    obtain ⟨v', w2, hr, hO2, hE2⟩ := append_int (c := 1) hO1 (q1.cell 0) (by simp; omega) hl1
    have eN : l.take i ++ [l[i]] = l.take (i + 1) := (List.take_succ_eq_append_getElem hlt).symm
    rw [eN] at hO2
    obtain ⟨A', cap', rfl, -, -, -⟩ := hO2.ints
    refine opk 4 88 (v := .slice A' (l.take (i + 1)).length cap') kk (frY rfl (k_append rfl rfl (kk.e 84 rfl) (kk.e 87 rfl) hr)) ?_; clear kk; intro a kk
    replace kk := kk.keep [88, 8, 80, 79, 78, 3, 2, 1] rfl
    refine opk 5 6 kk (frY rfl (k_assign rfl (kk.e 88 rfl))) ?_; clear kk; intro a kk
    refine wpr 2 ?_
    refine opk 0 89 (v := .int .i64 (i + 1 : Nat)) kk (frY rfl (o_addI rfl (kk.e 80 rfl) rfl (wrap_small (n := (i : Int) + 1) (by omega) (by omega)))) ?_; clear kk; intro a kk
    replace kk := kk.keep [89, 6, 8, 79, 78, 3, 2, 1] rfl
    refine opk 1 80 kk (frY rfl (k_move rfl (kk.e 89 rfl))) ?_; clear kk; intro a kk
    have lx := (l1.mono hb.size).trans ((hE2 ws.heap.size ws.heap.size (Nat.le_refl _)).below (Nat.le_refl _))
    refine ⟨⟨i + 1, A', cap', ⟨kk.d, kk.z, (kk.g 1 rfl), (kk.g 2 rfl), (kk.g 3 rfl), (kk.g 6 rfl), (kk.g 78 rfl), (kk.g 79 rfl), (kk.g 80 rfl), by omega, hO2, hb.trans lx⟩⟩, ?_⟩
    rw [(kk.g 80 rfl)]
    show (l.length - ((i + 1 : Nat) : Int)).toNat < (l.length - (i : Int)).toNat
    omega
  ·
    obtain rfl : i = l.length := by omega
    refine wp_seq ?_
    refine wpr 1 ?_
    refine opk 0 81 (v := .bool false) kk (frY rfl (o_ltI rfl (kk.e 80 rfl) (kk.e 79 rfl) (decide_eq_false (by omega)))) ?_; clear kk; intro a kk
    refine wp_seq ?_
    refine wp_cond_false (kk.e 81 rfl) ?_
    refine wp_exit ?_
    exact hend rfl a kk.d kk.z (kk.g 1 rfl) (kk.g 2 rfl) (kk.g 3 rfl) (kk.g 6 rfl)

structure LpI4 (ws : World) (p1 p2 p3 : Value) (A0 : Option Addr) (c0 : Nat) (l : List Int) (i : Nat) (A : Option Addr) (cap : Nat) (a : Act) (w : World) : Prop where
  d : a.defers = []
  z : a.tmps.size = 164
  s1 : a.tmps.getD 1 undef = p1
  s2 : a.tmps.getD 2 undef = p2
  s3 : a.tmps.getD 3 undef = p3
  s6 : a.tmps.getD 6 undef = .slice A (l.take i).length cap
  sl : a.tmps.getD 148 undef = .slice A0 l.length c0
  ln : a.tmps.getD 149 undef = .int .i64 l.length
  ix : a.tmps.getD 150 undef = .int .i64 i
  iN : i ≤ l.length
  o : OwnI w ws.heap.size (.slice A (l.take i).length cap) (l.take i)
  b : Below ws.heap.size ws w
noncomputable def mkRound4 : Code := ((Tryz.f29.body.map loopsM).getD []).getD 3 .skip

set_option maxRecDepth 100000 in
set_option maxHeartbeats 1000000 in
theorem mk_round4 (ws : World) (p1 p2 p3 : Value) (A0 : Option Addr) (c0 : Nat) (l : List Int) (hsrc : NumsIn .i16 ws A0 l) (hbd : ∀ x ∈ l, -32768 ≤ x ∧ x ≤ 32767) (hl : l.length ≤ 1000) (i : Nat) (A : Option Addr) (cap : Nat) (a : Act) (w : World) (Q : Exit → Act → World → Prop)
    (J : LpI4 ws p1 p2 p3 A0 c0 l i A cap a w) (hend : i = l.length → ∀ a' : Act, a'.defers = [] → a'.tmps.size = 164 → a'.tmps.getD 1 undef = p1 → a'.tmps.getD 2 undef = p2 → a'.tmps.getD 3 undef = p3 → a'.tmps.getD 6 undef = .slice A (l.take i).length cap → Q (.exit 7) a' w) :
    mkRound4.wp Tryz.prog (Exit.then (fun a' w' => (∃ i A cap, LpI4 ws p1 p2 p3 A0 c0 l i A cap a' w') ∧ (l.length - intOf (a'.tmps.getD 150 undef)).toNat < (l.length - intOf (a.tmps.getD 150 undef)).toNat) Q) a w := by
  have hd := J.d
  have hs := J.z
  have h1 := J.s1
  have h2 := J.s2
  have h3 := J.s3
  have h6 := J.s6
  have h148 := J.sl
  have h149 := J.ln
  have h150 := J.ix
  have kk := (((((((kn hs hd).p h1).p h2).p h3).p h6).p h148).p h149).p h150; clear hs hd h1 h2 h3 h6 h148 h149 h150
  have hiN := J.iN; have hO := J.o; have hb := J.b
  have k10 : (l.length - intOf (a.tmps.getD 150 undef)).toNat = (l.length - (i : Int)).toNat := by rw [(kk.g 150 rfl)]; rfl
  rw [k10]
  clear k10 J
  unfold mkRound4
  conv => arg 2; whnf
  by_cases hlt : i < l.length
  ·
    clear hend
    obtain ⟨ad, rfl, -, hc⟩ := (hsrc.below hb) i hlt
    have hx := hbd l[i] (List.getElem_mem hlt)
    refine wp_seq ?_
    refine wpr 1 ?_
    refine opk 0 151 (v := .bool true) kk (frY rfl (o_ltI rfl (kk.e 150 rfl) (kk.e 149 rfl) (decide_eq_true (by omega)))) ?_; clear kk; intro a kk
    refine wp_seq ?_
    refine wp_cond_true (kk.e 151 rfl) ?_
    refine wp_skip ?_
    refine wp_seq ?_
    refine wp_block ?_
    refine wp_seq ?_
    refine wpr 3 ?_
    refine opk 0 152 (v := .pointer (some (ad.add i))) kk (frY rfl (k_atS rfl (kk.e 148 rfl) (kk.e 150 rfl) hlt)) ?_; clear kk; intro a kk
    refine opk 1 153 (v := .int .i16 l[i]) kk (frY rfl (k_loadS rfl (kk.e 152 rfl) hc)) ?_; clear kk; intro a kk
    refine opk 2 14 kk (frY rfl (k_assign rfl (kk.e 153 rfl))) ?_; clear kk; intro a kk
    refine wpr 6 ?_
    refine opk 0 154 kk (frY rfl (k_move rfl (kk.e 6 rfl))) ?_; clear kk; intro a kk
    refine opk 1 155 kk (frY rfl (k_move rfl (kk.e 14 rfl))) ?_; clear kk; intro a kk
    refine opk 2 156 (v := .int .i64 l[i]) kk (frY rfl (o_convSI rfl (kk.e 155 rfl) (wrap_small (by omega) (by omega)))) ?_; clear kk; intro a kk
    refine opk 3 157 (v := .slice (some ⟨w.heap.size, 0, none⟩) 1 1) (w' := (w.alloc (.cells #[.int .i64 l[i]] 3))) kk (frY rfl (k_slice1 rfl (kk.e 156 rfl))) ?_; clear kk; intro a kk
    obtain ⟨w1, hw1⟩ : ∃ w1, w1 = w.alloc (.cells #[.int .i64 l[i]] 3) := ⟨_, rfl⟩
    rw [← hw1]
    have q1 : Blk w1 w.heap.size 3 #[.int .i64 l[i]] := by rw [hw1]; exact Blk.alloc _ _ _
    have l1 : Below w.heap.size w w1 := by rw [hw1]; exact (Below.refl _ _).alloc (Nat.le_refl _) _
    have hO1 := hO.below l1
    have hl1 : ws.heap.size ≤ w1.heap.size := Nat.le_trans hb.size l1.size
    clear hw1
    obtain ⟨v', w2, hr, hO2, hE2⟩ := append_int (c := 1) hO1 (q1.cell 0) (by simp; omega) hl1
    have eN : l.take i ++ [l[i]] = l.take (i + 1) := (List.take_succ_eq_append_getElem hlt).symm
    rw [eN] at hO2
    obtain ⟨A', cap', rfl, -, -, -⟩ := hO2.ints
    refine opk 4 158 (v := .slice A' (l.take (i + 1)).length cap') kk (frY rfl (k_append rfl rfl (kk.e 154 rfl) (kk.e 157 rfl) hr)) ?_; clear kk; intro a kk
    replace kk := kk.keep [158, 14, 150, 149, 148, 3, 2, 1] rfl
    refine opk 5 6 kk (frY rfl (k_assign rfl (kk.e 158 rfl))) ?_; clear kk; intro a kk
    refine wpr 2 ?_
    refine opk 0 159 (v := .int .i64 (i + 1 : Nat)) kk (frY rfl (o_addI rfl (kk.e 150 rfl) rfl (wrap_small (n := (i : Int) + 1) (by omega) (by omega)))) ?_; clear kk; intro a kk
    replace kk := kk.keep [159, 6, 14, 149, 148, 3, 2, 1] rfl
    refine opk 1 150 kk (frY rfl (k_move rfl (kk.e 159 rfl))) ?_; clear kk; intro a kk
    have lx := (l1.mono hb.size).trans ((hE2 ws.heap.size ws.heap.size (Nat.le_refl _)).below (Nat.le_refl _))
    refine ⟨⟨i + 1, A', cap', ⟨kk.d, kk.z, (kk.g 1 rfl), (kk.g 2 rfl), (kk.g 3 rfl), (kk.g 6 rfl), (kk.g 148 rfl), (kk.g 149 rfl), (kk.g 150 rfl), by omega, hO2, hb.trans lx⟩⟩, ?_⟩
    rw [(kk.g 150 rfl)]
    show (l.length - ((i + 1 : Nat) : Int)).toNat < (l.length - (i : Int)).toNat
    omega
  ·
    obtain rfl : i = l.length := by omega
    refine wp_seq ?_
    refine wpr 1 ?_
    refine opk 0 151 (v := .bool false) kk (frY rfl (o_ltI rfl (kk.e 150 rfl) (kk.e 149 rfl) (decide_eq_false (by omega)))) ?_; clear kk; intro a kk
    refine wp_seq ?_
    refine wp_cond_false (kk.e 151 rfl) ?_
    refine wp_exit ?_
    exact hend rfl a kk.d kk.z (kk.g 1 rfl) (kk.g 2 rfl) (kk.g 3 rfl) (kk.g 6 rfl)

structure LpI1 (w0 ws : World) (b3 : Nat) (p1 p2 x0 x1 x2 x3 : Value) (A0 : Option Addr) (c0 : Nat) (l : List Int) (i : Nat) (A : Option Addr) (cap : Nat) (a : Act) (w : World) : Prop where
  d : a.defers = []
  z : a.tmps.size = 164
  s1 : a.tmps.getD 1 undef = p1
  s2 : a.tmps.getD 2 undef = p2
  s3 : a.tmps.getD 3 undef = .pointer (some ⟨b3, 0, none⟩)
  sl : a.tmps.getD 54 undef = .slice A0 l.length c0
  ln : a.tmps.getD 55 undef = .int .i64 l.length
  ix : a.tmps.getD 56 undef = .int .i64 i
  iN : i ≤ l.length
  B3 : Blk w b3 36 #[x0, x1, x2, x3, .slice A (Mk.monOut (l.take i)).length cap, .slice none 0 0, .slice none 0 0, .slice none 0 0]
  o : OwnI w ws.heap.size (.slice A (Mk.monOut (l.take i)).length cap) (Mk.monOut (l.take i))
  e : Exc ws.heap.size b3 ws w
noncomputable def mkRound1 : Code := ((Tryz.f29.body.map loopsM).getD []).getD 0 .skip

set_option maxRecDepth 100000 in
set_option maxHeartbeats 1000000 in
theorem mk_round1 (w0 ws : World) (b3 : Nat) (p1 p2 x0 x1 x2 x3 : Value) (A0 : Option Addr) (c0 : Nat) (l : List Int) (hsrc : NumsIn .u8 w0 A0 l) (hws : Below w0.heap.size w0 ws) (hb0 : w0.heap.size ≤ b3) (hb3 : b3 < ws.heap.size) (hbd : ∀ x ∈ l, 0 ≤ x ∧ x ≤ 255) (hl : l.length ≤ 1000) (i : Nat) (A : Option Addr) (cap : Nat) (a : Act) (w : World) (Q : Exit → Act → World → Prop)
    (J : LpI1 w0 ws b3 p1 p2 x0 x1 x2 x3 A0 c0 l i A cap a w) (hend : i = l.length → ∀ a' : Act, a'.defers = [] → a'.tmps.size = 164 → a'.tmps.getD 1 undef = p1 → a'.tmps.getD 2 undef = p2 → a'.tmps.getD 3 undef = .pointer (some ⟨b3, 0, none⟩) → Q (.exit 1) a' w) :
    mkRound1.wp Tryz.prog (Exit.then (fun a' w' => (∃ i A cap, LpI1 w0 ws b3 p1 p2 x0 x1 x2 x3 A0 c0 l i A cap a' w') ∧ (l.length - intOf (a'.tmps.getD 56 undef)).toNat < (l.length - intOf (a.tmps.getD 56 undef)).toNat) Q) a w := by
  have hd := J.d
  have hs := J.z
  have h1 := J.s1
  have h2 := J.s2
  have h3 := J.s3
  have h54 := J.sl
  have h55 := J.ln
  have h56 := J.ix
  have kk := ((((((kn hs hd).p h1).p h2).p h3).p h54).p h55).p h56; clear hs hd h1 h2 h3 h54 h55 h56
  have hiN := J.iN; have hO := J.o; have hE := J.e; have hB := J.B3
  have hb : Below w0.heap.size w0 w := hws.trans ((hE.mono hws.size).below hb0)
  have hlen := Mk.monOut_len hiN
  have k10 : (l.length - intOf (a.tmps.getD 56 undef)).toNat = (l.length - (i : Int)).toNat := by rw [(kk.g 56 rfl)]; rfl
  rw [k10]
  clear k10 J
  unfold mkRound1
  conv => arg 2; whnf
  by_cases hlt : i < l.length
  ·
    clear hend
    obtain ⟨ad, rfl, -, hc⟩ := (hsrc.below hb) i hlt
    have hx := hbd l[i] (List.getElem_mem hlt)
    have et : l[i].tmod 12 = l[i] % 12 := Int.tmod_eq_emod_of_nonneg hx.1
    refine wp_seq ?_
    refine wpr 1 ?_
    refine opk 0 57 (v := .bool true) kk (frY rfl (o_ltI rfl (kk.e 56 rfl) (kk.e 55 rfl) (decide_eq_true (by omega)))) ?_; clear kk; intro a kk
    refine wp_seq ?_
    refine wp_cond_true (kk.e 57 rfl) ?_
    refine wp_skip ?_
    refine wp_seq ?_
    refine wp_block ?_
    refine wp_seq ?_
    refine wpr 3 ?_
    refine opk 0 58 (v := .pointer (some (ad.add i))) kk (frY rfl (k_atB rfl (kk.e 54 rfl) (kk.e 56 rfl) hlt)) ?_; clear kk; intro a kk
    refine opk 1 59 (v := .int .u8 l[i]) kk (frY rfl (k_loadB rfl (kk.e 58 rfl) hc)) ?_; clear kk; intro a kk
    refine opk 2 5 kk (frY rfl (k_assign rfl (kk.e 59 rfl))) ?_; clear kk; intro a kk
    refine wpr 10 ?_
    refine opk 0 60 (v := .pointer (some ⟨b3, 4, none⟩)) kk (frY rfl (k_field4 rfl (kk.e 3 rfl))) ?_; clear kk; intro a kk
    refine opk 1 61 (v := .slice A (Mk.monOut (l.take i)).length cap) kk (frY rfl (k_loadL rfl (kk.e 60 rfl) (hB.cell 4))) ?_; clear kk; intro a kk
    refine opk 2 62 kk (frY rfl (k_move rfl (kk.e 5 rfl))) ?_; clear kk; intro a kk
    refine opk 3 63 (v := .int .u8 (l[i].tmod 12)) kk (frY rfl (o_remB rfl (kk.e 62 rfl) rfl (by decide) rfl)) ?_; clear kk; intro a kk
    refine opk 4 64 (v := .int .i64 (l[i].tmod 12)) kk (frY rfl (o_convBI rfl (kk.e 63 rfl) (wrap_small (by omega) (by omega)))) ?_; clear kk; intro a kk
    refine opk 5 65 (v := .int .i64 (1 + l[i].tmod 12)) kk (frY rfl (o_addI rfl rfl (kk.e 64 rfl) (wrap_small (by omega) (by omega)))) ?_; clear kk; intro a kk
    refine opk 6 66 (v := .slice (some ⟨w.heap.size, 0, none⟩) 1 1) (w' := (w.alloc (.cells #[.int .i64 (1 + l[i].tmod 12)] 3))) kk (frY rfl (k_slice1 rfl (kk.e 65 rfl))) ?_; clear kk; intro a kk
    obtain ⟨w1, hw1⟩ : ∃ w1, w1 = w.alloc (.cells #[.int .i64 (1 + l[i].tmod 12)] 3) := ⟨_, rfl⟩
    rw [← hw1]
    have q1 : Blk w1 w.heap.size 3 #[.int .i64 (1 + l[i].tmod 12)] := by rw [hw1]; exact Blk.alloc _ _ _
    have l1 : Below w.heap.size w w1 := by rw [hw1]; exact (Below.refl _ _).alloc (Nat.le_refl _) _
    have hO1 := hO.below l1
    have hB1 := hB.below l1 hB.lt
    have hl1 : ws.heap.size ≤ w1.heap.size := Nat.le_trans hE.size l1.size
    clear hw1
    obtain ⟨v', w2, hr, hO2, hE2⟩ := append_int (c := 1) hO1 (q1.cell 0) (by omega) hl1
    have eN : Mk.monOut (l.take i) ++ [1 + l[i].tmod 12] = Mk.monOut (l.take (i + 1)) := (Mk.monOut_take hlt).symm
    rw [eN] at hO2
    obtain ⟨A', cap', rfl, -, -, -⟩ := hO2.ints
    have hB2 := hB1.exc (hE2 ws.heap.size ws.heap.size (Nat.le_refl _)) hb3 (by omega)
    refine opk 7 67 (v := .slice A' (Mk.monOut (l.take (i + 1))).length cap') kk (frY rfl (k_append rfl rfl (kk.e 61 rfl) (kk.e 66 rfl) hr)) ?_; clear kk; intro a kk
    refine opk 8 68 (v := .pointer (some ⟨b3, 4, none⟩)) kk (frY rfl (k_field4 rfl (kk.e 3 rfl))) ?_; clear kk; intro a kk
    refine opL_store 9 (w' := (w2.setCell ⟨b3, 4, none⟩ (.slice A' (Mk.monOut (l.take (i + 1))).length cap'))) (by kernel_rfl) ?_ ?_
    · exact frY rfl (k_storeL rfl (kk.e 68 rfl) (kk.e 67 rfl) hB2 (by simp))
    obtain ⟨w3, hw3⟩ : ∃ w3, w3 = w2.setCell ⟨b3, 4, none⟩ (.slice A' (Mk.monOut (l.take (i + 1))).length cap') := ⟨_, rfl⟩
    rw [← hw3]
    have hB3 : Blk w3 b3 36 #[x0, x1, x2, x3, .slice A' (Mk.monOut (l.take (i + 1))).length cap', .slice none 0 0, .slice none 0 0, .slice none 0 0] := by rw [hw3]; exact hB2.set 4 _
    have hE3 : ∀ B, Exc B b3 w2 w3 := by rw [hw3]; exact exc_set w2 b3 4 _
    clear hw3
    refine wpr 2 ?_
    refine opk 0 69 (v := .int .i64 (i + 1 : Nat)) kk (frY rfl (o_addI rfl (kk.e 56 rfl) rfl (wrap_small (n := (i : Int) + 1) (by omega) (by omega)))) ?_; clear kk; intro a kk
    replace kk := kk.keep [69, 5, 55, 54, 3, 2, 1] rfl
    refine opk 1 56 kk (frY rfl (k_move rfl (kk.e 69 rfl))) ?_; clear kk; intro a kk
    refine ⟨⟨i + 1, A', cap', ⟨kk.d, kk.z, (kk.g 1 rfl), (kk.g 2 rfl), (kk.g 3 rfl), (kk.g 54 rfl), (kk.g 55 rfl), (kk.g 56 rfl), by omega, hB3, hO2.exc (hE3 w2.heap.size) (fun g hg => ⟨(hO2.lt g hg).2, by have := (hO2.lt g hg).1; omega⟩), (hE.trans (Exc.of (l1.mono hE.size))).trans ((hE2 ws.heap.size b3 (Nat.le_refl _)).trans (hE3 ws.heap.size))⟩⟩, ?_⟩
    rw [(kk.g 56 rfl)]
    show (l.length - ((i + 1 : Nat) : Int)).toNat < (l.length - (i : Int)).toNat
    omega
  ·
    obtain rfl : i = l.length := by omega
    refine wp_seq ?_
    refine wpr 1 ?_
    refine opk 0 57 (v := .bool false) kk (frY rfl (o_ltI rfl (kk.e 56 rfl) (kk.e 55 rfl) (decide_eq_false (by omega)))) ?_; clear kk; intro a kk
    refine wp_seq ?_
    refine wp_cond_false (kk.e 57 rfl) ?_
    refine wp_exit ?_
    exact hend rfl a kk.d kk.z (kk.g 1 rfl) (kk.g 2 rfl) (kk.g 3 rfl)
end Go.Proofs.YtnggajehngemmaaGreatDoor
