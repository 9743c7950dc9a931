/-
  What is known of a frame, in one fact: how many slots, what is deferred, some slots' values.
-/
import Derived.Test.YtnggajehngemmaaGreatDoorLf
namespace Go.Proofs.YtnggajehngemmaaGreatDoor
open Go.RowKit
def AllK (a : Act) : List (Nat × Value) → Prop
  | [] => True
  | (t, v) :: L => a.tmps.getD t undef = v ∧ AllK a L
structure Know (N : Nat) (df : List Deferred) (a : Act) (L : List (Nat × Value)) : Prop where
  z : a.tmps.size = N
  d : a.defers = df
  k : AllK a L
/-- a slot's value -/
def lk (t : Nat) : List (Nat × Value) → Option Value
  | [] => none
  | (u, v) :: L => bif Nat.beq t u then some v else lk t L
def fresh (t : Nat) : List (Nat × Value) → Bool
  | [] => true
  | (u, _) :: L => bif Nat.beq u t then false else fresh t L
def pickL : List Nat → List (Nat × Value) → Option (List (Nat × Value))
  | [], _ => some []
  | t :: ts, L => match lk t L, pickL ts L with
    | some v, some M => some ((t, v) :: M)
    | _, _ => none
section
variable {N : Nat} {df : List Deferred} {a : Act} {L : List (Nat × Value)} {v : Value}
theorem AllK.g : ∀ {L : List (Nat × Value)} {t : Nat}, AllK a L → lk t L = some v → a.tmps.getD t undef = v
  | [], _, _, e => by cases e
  | (u, x) :: L, t, h, e => by
    unfold lk at e
    cases hb : Nat.beq t u with
    | true =>
      rw [hb] at e
      obtain rfl : x = v := Option.some.inj e
      rw [Nat.eq_of_beq_eq_true hb]
      exact h.1
    | false =>
      rw [hb] at e
      exact AllK.g h.2 e
theorem Know.g (h : Know N df a L) (t : Nat) (e : lk t L = some v) : a.tmps.getD t undef = v := h.k.g e
theorem Know.e (h : Know N df a L) (t : Nat) (e : lk t L = some v) : a.eval (.tmp t) = v := ev_tmp (h.g t e)
theorem Know.p (h : Know N df a L) {t : Nat} (e : a.tmps.getD t undef = v) : Know N df a ((t, v) :: L) := ⟨h.z, h.d, e, h.k⟩
theorem kn (hs : a.tmps.size = N) (hd : a.defers = df) : Know N df a [] := ⟨hs, hd, trivial⟩
theorem AllK.pick : ∀ {ts : List Nat} {M : List (Nat × Value)}, AllK a L → pickL ts L = some M → AllK a M
  | [], M, _, e => by obtain rfl := Option.some.inj e; exact trivial
  | t :: ts, M, h, e => by
    unfold pickL at e
    split at e
    · rename_i v M' e1 e2
      obtain rfl := Option.some.inj e
      exact ⟨h.g e1, AllK.pick h e2⟩
    · cases e
theorem Know.keep (h : Know N df a L) (ts : List Nat) {M : List (Nat × Value)} (e : pickL ts L = some M) : Know N df a M := ⟨h.z, h.d, h.k.pick e⟩
theorem AllK.fr {b : Act} {d : Nat} (F : Fr d v a b) : ∀ {L : List (Nat × Value)}, AllK a L → fresh d L = true → AllK b L
  | [], _, _ => trivial
  | (u, x) :: L, h, e => by
    unfold fresh at e
    cases hb : Nat.beq u d with
    | true => rw [hb] at e; cases e
    | false =>
      rw [hb] at e
      exact ⟨(F.n u (fun e' => by rw [e', Nat.beq_refl] at hb; cases hb)).trans h.1, AllK.fr F h.2 e⟩
theorem Know.fr {b : Act} {d : Nat} (F : Fr d v a b) (h : Know N df a L) (e : fresh d L = true) : Know N df b ((d, v) :: L) := ⟨F.z.trans h.z, F.e.trans h.d, F.s, h.k.fr F e⟩
end
section
variable {P : Program} {ops : Array Oper} {Q : Exit → Act → World → Prop} {a : Act} {w w' : World} {v : Value} {N : Nat} {df : List Deferred} {L : List (Nat × Value)}
def upto : Nat → Nat → List Nat
  | _, 0 => []
  | i, n + 1 => i :: upto (i + 1) n
theorem upto_range : ∀ (n i : Nat), List.range' i n = upto i n
  | 0, _ => rfl
  | n + 1, i => by
    rw [List.range'_succ, upto_range n (i + 1)]
    rfl
/-- a plain region of n operations -/
theorem wpr (n : Nat) {id : Nat} (h : wpOps P ops Q (upto 0 n) a w) (hn : ops.size = n := by rfl) : (Code.region id ops false).wp P Q a w := by
  refine wp_region ?_
  rw [hn, List.range_eq_range', upto_range]
  exact h
theorem frX {x : Oper} {u : Oper → Bool} {b : Bool} (e : u x = b) : ∀ o, some x = some o → u o = b := by rintro o ⟨⟩; exact e
/-- one that is passed over -/
theorem opkn (i d : Nat) {rest : List Nat} (hk : Know N df a L) (hy : ∀ o, ops[i]? = some o → Region.wanted o (yielded ops a.tmps) = false)
    (h : ∀ a' : Act, Know N df a' ((d, undef) :: L) → wpOps P ops Q rest a' w) (hd : (ops[i]?).map (·.dst) = some (some d) := by kernel_rfl) (hz : Nat.ble (d + 1) N = true := by rfl) (hf : fresh d L = true := by rfl) : wpOps P ops Q (i :: rest) a w :=
  opL_not i d hd (by rw [hk.z]; exact Nat.le_of_ble_eq_true hz) hy (fun a' F => h a' (Know.fr F hk hf))
/-- an operation that yields -/
theorem opk (i d : Nat) {rest : List Nat} (hk : Know N df a L) (hy : ∀ o, ops[i]? = some o → Region.wanted o (yielded ops a.tmps) = true ∧ (execOp a.eval o).run P w = .ok (.value v) w')
    (h : ∀ a' : Act, Know N df a' ((d, v) :: L) → wpOps P ops Q rest a' w') (hd : (ops[i]?).map (·.dst) = some (some d) := by kernel_rfl) (hz : Nat.ble (d + 1) N = true := by rfl) (hf : fresh d L = true := by rfl) : wpOps P ops Q (i :: rest) a w :=
  opL i d hd (by rw [hk.z]; exact Nat.le_of_ble_eq_true hz) hy (fun a' F => h a' (Know.fr F hk hf))
/-- a call -/
theorem opkc (i d : Nat) {rest : List Nat} {f : FuncId} {args : Array Value} {R : Value → World → Prop} (hk : Know N df a L) (hc : Calls P f args w fun e w' => ∃ v, e = .returned v ∧ R v w')
    (hy : ∀ o, ops[i]? = some o → Region.wanted o (yielded ops a.tmps) = true ∧ (execOp a.eval o).run P w = .ok (.enter f args) w)
    (h : ∀ (v : Value) (w' : World) (a' : Act), R v w' → Know N df a' ((d, v) :: L) → wpOps P ops Q rest a' w') (hd : (ops[i]?).map (·.dst) = some (some d) := by kernel_rfl) (hz : Nat.ble (d + 1) N = true := by rfl) (hf : fresh d L = true := by rfl) : wpOps P ops Q (i :: rest) a w :=
  opL_call i d hd (by rw [hk.z]; exact Nat.le_of_ble_eq_true hz) hy hc (fun v w' a' hR F => h v w' a' hR (Know.fr F hk hf))
end
end Go.Proofs.YtnggajehngemmaaGreatDoor
/-
  A rule in memory; the operations that load it and call Check and the law's Check.
-/
namespace Go.Proofs.YtnggajehngemmaaGreatDoor
open Go.RowKit
/-- a rule lies at block b -/
structure RuleAt (w : World) (b : Nat) (f iv c u : Int) (sM sD sW sP : Value) : Prop where
  lt : b < w.heap.size
  c0 : w.cell? ⟨b, 0, none⟩ = some (.int .i64 f)
  c1 : w.cell? ⟨b, 1, none⟩ = some (.int .i64 iv)
  c2 : w.cell? ⟨b, 2, none⟩ = some (.int .i64 c)
  c3 : w.cell? ⟨b, 3, none⟩ = some (.int .i64 u)
  c4 : w.cell? ⟨b, 4, none⟩ = some sM
  c5 : w.cell? ⟨b, 5, none⟩ = some sD
  c6 : w.cell? ⟨b, 6, none⟩ = some sW
  c7 : w.cell? ⟨b, 7, none⟩ = some sP
theorem RuleAt.below {w w' : World} {b : Nat} {f iv c u : Int} {sM sD sW sP : Value} (h : RuleAt w b f iv c u sM sD sW sP) (hb : Below w.heap.size w w') : RuleAt w' b f iv c u sM sD sW sP :=
  ⟨Nat.lt_of_lt_of_le h.lt hb.size, (hb.cell (p := ⟨b, 0, none⟩) h.lt).trans h.c0, (hb.cell (p := ⟨b, 1, none⟩) h.lt).trans h.c1, (hb.cell (p := ⟨b, 2, none⟩) h.lt).trans h.c2, (hb.cell (p := ⟨b, 3, none⟩) h.lt).trans h.c3,
   (hb.cell (p := ⟨b, 4, none⟩) h.lt).trans h.c4, (hb.cell (p := ⟨b, 5, none⟩) h.lt).trans h.c5, (hb.cell (p := ⟨b, 6, none⟩) h.lt).trans h.c6, (hb.cell (p := ⟨b, 7, none⟩) h.lt).trans h.c7⟩
section
variable {w : World} {ρ : Operand → Value} {o : Oper} {x y : Operand} {b : Nat} {v : Value}
theorem k_loadR {f iv c u : Int} {sM sD sW sP : Value} (ho : o.op = .load 36 x) (hx : ρ x = .pointer (some ⟨b, 0, none⟩)) (h : RuleAt w b f iv c u sM sD sW sP) :
    (execOp ρ o).run Tryz.prog w = .ok (.value (.agg #[.int .i64 f, .int .i64 iv, .int .i64 c, .int .i64 u, sM, sD, sW, sP])) w := by
  obtain ⟨-, c0, c1, c2, c3, c4, c5, c6, c7⟩ := h
  simp only [execOp, ho, hx]
  go_simp
theorem k_callCheck (ho : o.op = .call ⟨.value (.func 16), #[x], #[36]⟩) (hf : ρ (.func 16) = .func (.func 16) #[] #[]) (hx : ρ x = v) : (execOp ρ o).run Tryz.prog w = .ok (.enter 16 #[v]) w := by
  simp only [execOp, ho]
  go_simp
theorem k_eqE {n m : Int} {r : Bool} (ho : o.op = .binOp .eql 42 x y 42) (hx : ρ x = .int .i64 n) (hy : ρ y = .int .i64 m) (hr : (n == m) = r) : (execOp ρ o).run Tryz.prog w = .ok (.value (.bool r)) w := by
  subst hr
  simp only [execOp, ho, hx, hy]
  go_simp
theorem k_assign (ho : o.op = .assign x) (hx : ρ x = v) : (execOp ρ o).run Tryz.prog w = .ok (.value v) w := by
  simp only [execOp, ho, hx]; rfl
end
end Go.Proofs.YtnggajehngemmaaGreatDoor
/-
  Blocks of memory; worlds that differ in one block and in new memory alone; the operations that make and write blocks.
-/
namespace Go.Proofs.YtnggajehngemmaaGreatDoor
open Go.RowKit
/-- block b holds the cells cs -/
def Blk (w : World) (b : Nat) (t : TypeId) (cs : Array Value) : Prop := w.heap[b]? = some (.cells cs t (0, 0))
theorem Blk.cell {w : World} {b : Nat} {t : TypeId} {cs : Array Value} (h : Blk w b t cs) (i : Nat) : w.cell? ⟨b, i, none⟩ = cs[i]? := cell_of_row _ _ _ _ _ (0, 0) h
theorem Blk.lt {w : World} {b : Nat} {t : TypeId} {cs : Array Value} (h : Blk w b t cs) : b < w.heap.size := (Array.getElem?_eq_some_iff.1 h).1
theorem Blk.alloc (w : World) (t : TypeId) (cs : Array Value) : Blk (w.alloc (.cells cs t)) w.heap.size t cs := heap_alloc_new w _
theorem Blk.frozen {w : World} {b : Nat} {t : TypeId} {cs : Array Value} (h : Blk w b t cs) (i : Nat) : w.frozen? ⟨b, i, none⟩ = false := by
  unfold World.frozen?
  rw [show w.heap[(⟨b, i, none⟩ : Addr).block]? = some (.cells cs t (0, 0)) from h]
  simp
/-- w' is w but for block b, and new memory: of what lies below B -/
structure Exc (B b : Nat) (w w' : World) : Prop where
  os : w'.os = w.os
  tape : w'.tape = w.tape
  output : w'.output = w.output
  size : w.heap.size ≤ w'.heap.size
  block : ∀ k, k < B → k ≠ b → w'.heap[k]? = w.heap[k]?
theorem Exc.refl (B b : Nat) (w : World) : Exc B b w w := ⟨rfl, rfl, rfl, Nat.le_refl _, fun _ _ _ => rfl⟩
theorem Exc.trans {B b : Nat} {x y z : World} (h : Exc B b x y) (k : Exc B b y z) : Exc B b x z :=
  ⟨k.os.trans h.os, k.tape.trans h.tape, k.output.trans h.output, Nat.le_trans h.size k.size, fun i h1 h2 => (k.block i h1 h2).trans (h.block i h1 h2)⟩
theorem Exc.of {B b : Nat} {x y : World} (h : Below B x y) : Exc B b x y := ⟨h.os, h.tape, h.output, h.size, fun i h1 _ => h.block i h1⟩
theorem Exc.mono {B C b : Nat} {x y : World} (h : Exc C b x y) (hb : B ≤ C) : Exc B b x y := ⟨h.os, h.tape, h.output, h.size, fun i h1 h2 => h.block i (by omega) h2⟩
/-- the block lies above: nothing below has turned -/
theorem Exc.below {B b : Nat} {x y : World} (h : Exc B b x y) (hb : B ≤ b) : Below B x y := ⟨h.os, h.tape, h.output, h.size, fun i h1 => h.block i h1 (by omega)⟩
theorem Blk.exc {B c : Nat} {w w' : World} {b : Nat} {t : TypeId} {cs : Array Value} (h : Blk w b t cs) (e : Exc B c w w') (h1 : b < B) (h2 : b ≠ c) : Blk w' b t cs := (e.block b h1 h2).trans h
theorem Blk.below {B : Nat} {w w' : World} {b : Nat} {t : TypeId} {cs : Array Value} (h : Blk w b t cs) (e : Below B w w') (h1 : b < B) : Blk w' b t cs := (e.block b h1).trans h
/-- a cell of block b set -/
theorem Blk.set {w : World} {b : Nat} {t : TypeId} {cs : Array Value} (h : Blk w b t cs) (i : Nat) (v : Value) : Blk (w.setCell ⟨b, i, none⟩ v) b t (cs.setIfInBounds i v) := by
  unfold Blk World.setCell
  have hl := h.lt
  unfold Blk at h
  simp only [Array.getElem?_modify]
  rw [h]
  simp
theorem exc_set (w : World) (b i : Nat) (v : Value) (B : Nat) : Exc B b w (w.setCell ⟨b, i, none⟩ v) := by
  refine ⟨rfl, rfl, rfl, by simp [World.setCell], fun k _ h2 => ?_⟩
  simp only [World.setCell, Array.getElem?_modify]
  rw [if_neg (fun e => h2 e.symm)]
/-- a grown row: what lies below its base stays -/
theorem exc_grown {w w' : World} {v : Value} {B b : Nat} (h : w.grownBy w' v.ownBlock) (hb : ∀ g, v.ownBlock = some g → B ≤ g) (hB : B ≤ w.heap.size) : Exc B b w w' :=
  ⟨h.os, h.tape, h.output, h.size, fun k h1 _ => h.block k (by omega) (fun e => by have := hb k e.symm; omega)⟩
/-- numbers in a row of the call's own -/
def OwnI (w : World) (base : Nat) (v : Value) (L : List Int) : Prop := w.ownsRow base 3 1 v L.length (L.map fun x => .int .i64 x)
/-- weekdays in a row of the call's own -/
def OwnN (w : World) (base : Nat) (v : Value) (L : List (Int × Int)) : Prop := w.ownsRow base 51 2 v L.length (L.flatMap fun x => [.int .i64 x.1, .int .i64 x.2])
theorem OwnI.nil (w : World) (base : Nat) : OwnI w base (.slice none 0 0) [] := World.ownsRow_nil w base _ 1
theorem OwnN.nil (w : World) (base : Nat) : OwnN w base (.slice none 0 0) [] := World.ownsRow_nil w base _ 2
theorem OwnI.exc {w w' : World} {base B b : Nat} {v : Value} {L : List Int} (h : OwnI w base v L) (e : Exc B b w w') (h1 : ∀ g, v.ownBlock = some g → g < B ∧ g ≠ b) : OwnI w' base v L := by
  refine ⟨h.1, ?_⟩
  rcases h.2 with hn | ⟨g, cap, cur, rfl, hb, hg, rest⟩
  · exact .inl hn
  · obtain ⟨q1, q2⟩ := h1 g rfl
    exact .inr ⟨g, cap, cur, rfl, hb, (e.block g q1 q2).trans hg, rest⟩
theorem OwnN.exc {w w' : World} {base B b : Nat} {v : Value} {L : List (Int × Int)} (h : OwnN w base v L) (e : Exc B b w w') (h1 : ∀ g, v.ownBlock = some g → g < B ∧ g ≠ b) : OwnN w' base v L := by
  refine ⟨h.1, ?_⟩
  rcases h.2 with hn | ⟨g, cap, cur, rfl, hb, hg, rest⟩
  · exact .inl hn
  · obtain ⟨q1, q2⟩ := h1 g rfl
    exact .inr ⟨g, cap, cur, rfl, hb, (e.block g q1 q2).trans hg, rest⟩
theorem flat_get {L : List (Int × Int)} : ∀ (i : Nat) (h : i < L.length), (L.flatMap fun x => [Value.int .i64 x.1, .int .i64 x.2])[i * 2]? = some (.int .i64 L[i].1) ∧ (L.flatMap fun x => [Value.int .i64 x.1, .int .i64 x.2])[i * 2 + 1]? = some (.int .i64 L[i].2) := by
  induction L with
  | nil => intro i h; exact absurd h (Nat.not_lt_zero i)
  | cons x L ih =>
    intro i h
    cases i with
    | zero => simp
    | succ i =>
      have := ih i (by simpa using h)
      rw [show (i + 1) * 2 = i * 2 + 2 by omega, show i * 2 + 2 + 1 = i * 2 + 1 + 2 by omega]
      simpa using this
theorem OwnI.ints {w : World} {base : Nat} {v : Value} {L : List Int} (h : OwnI w base v L) : ∃ A cap, v = .slice A L.length cap ∧ L.length ≤ maxLen ∧ L.length ≤ cap ∧ IntsIn w A L := by
  rcases h.2 with ⟨rfl, hn⟩ | ⟨g, cap, cur, rfl, hb, hg, h1, h2, h3, h4⟩
  · obtain rfl : L = [] := List.eq_nil_of_length_eq_zero hn
    exact ⟨none, 0, rfl, Nat.zero_le _, Nat.zero_le _, fun k hk => absurd hk (Nat.not_lt_zero k)⟩
  · refine ⟨some ⟨g, 0, none⟩, cap, rfl, by omega, h1, fun k hk => ⟨_, rfl, (Array.getElem?_eq_some_iff.1 hg).1, ?_⟩⟩
    have hB : Blk w g _ cur := hg
    have e : (⟨g, 0, none⟩ : Addr).add k = ⟨g, k, none⟩ := by simp [Addr.add]; omega
    rw [e, hB.cell k]
    have : (cur.toList.take (L.length * 1))[k]? = some (.int .i64 L[k]) := by rw [h4]; simp [hk]
    rw [List.getElem?_take] at this
    split at this
    · simpa using this
    · cases this
theorem OwnN.nths {w : World} {base : Nat} {v : Value} {L : List (Int × Int)} (h : OwnN w base v L) : ∃ A cap, v = .slice A L.length cap ∧ L.length ≤ maxLen ∧ L.length ≤ cap ∧ NthsIn w A L := by
  rcases h.2 with ⟨rfl, hn⟩ | ⟨g, cap, cur, rfl, hb, hg, h1, h2, h3, h4⟩
  · obtain rfl : L = [] := List.eq_nil_of_length_eq_zero hn
    exact ⟨none, 0, rfl, Nat.zero_le _, Nat.zero_le _, fun k hk => absurd hk (Nat.not_lt_zero k)⟩
  · refine ⟨some ⟨g, 0, none⟩, cap, rfl, by omega, h1, fun k hk => ⟨_, rfl, (Array.getElem?_eq_some_iff.1 hg).1, ?_⟩⟩
    have hB : Blk w g _ cur := hg
    have e : (⟨g, 0, none⟩ : Addr).add (k * 2) = ⟨g, k * 2, none⟩ := by simp [Addr.add]; omega
    have e' : (⟨g, k * 2, none⟩ : Addr).add 1 = ⟨g, k * 2 + 1, none⟩ := by simp [Addr.add]
    rw [e, e', hB.cell, hB.cell]
    obtain ⟨f1, f2⟩ := flat_get k hk
    rw [← h4, List.getElem?_take] at f1 f2
    rw [if_pos (by omega)] at f1 f2
    exact ⟨by simpa using f1, by simpa using f2⟩
section
variable {w : World} {ρ : Operand → Value} {o : Oper} {x y : Operand} {b i : Nat} {v : Value} {t : TypeId} {cs : Array Value}
theorem k_storeI {n : Int} (ho : o.op = .store 3 x y) (hx : ρ x = .pointer (some ⟨b, i, none⟩)) (hy : ρ y = .int .i64 n) (hb : Blk w b t cs) (hi : i < cs.size) :
    (execOp ρ o).run Tryz.prog w = .ok .skip (w.setCell ⟨b, i, none⟩ (.int .i64 n)) := by
  have hc := hb.cell i
  have hf := hb.frozen i
  rw [Array.getElem?_eq_getElem hi] at hc
  simp only [execOp, ho, hx, hy]
  go_simp
theorem k_storeL {A : Option Addr} {n c : Nat} (ho : o.op = .store 33 x y) (hx : ρ x = .pointer (some ⟨b, i, none⟩)) (hy : ρ y = .slice A n c) (hb : Blk w b t cs) (hi : i < cs.size) :
    (execOp ρ o).run Tryz.prog w = .ok .skip (w.setCell ⟨b, i, none⟩ (.slice A n c)) := by
  have hc := hb.cell i
  have hf := hb.frozen i
  rw [Array.getElem?_eq_getElem hi] at hc
  simp only [execOp, ho, hx, hy]
  go_simp
theorem k_storeW {A : Option Addr} {n c : Nat} (ho : o.op = .store 34 x y) (hx : ρ x = .pointer (some ⟨b, i, none⟩)) (hy : ρ y = .slice A n c) (hb : Blk w b t cs) (hi : i < cs.size) :
    (execOp ρ o).run Tryz.prog w = .ok .skip (w.setCell ⟨b, i, none⟩ (.slice A n c)) := by
  have hc := hb.cell i
  have hf := hb.frozen i
  rw [Array.getElem?_eq_getElem hi] at hc
  simp only [execOp, ho, hx, hy]
  go_simp
theorem k_storeU {n : Int} (ho : o.op = .store 32 x y) (hx : ρ x = .pointer (some ⟨b, i, none⟩)) (hy : ρ y = .int .i64 n) (hb : Blk w b t cs) (hi : i < cs.size) :
    (execOp ρ o).run Tryz.prog w = .ok .skip (w.setCell ⟨b, i, none⟩ (.int .i64 n)) := by
  have hc := hb.cell i
  have hf := hb.frozen i
  rw [Array.getElem?_eq_getElem hi] at hc
  simp only [execOp, ho, hx, hy]
  go_simp
end
end Go.Proofs.YtnggajehngemmaaGreatDoor
/-
  Rows of the call's own that grow: one element put behind.
-/
namespace Go.Proofs.YtnggajehngemmaaGreatDoor
open Go.RowKit
theorem info_of {T : TypeId} {z : Value} {n b : Nat} (h1 : (Tryz.prog.info? T).map (·.size) = some n) (h2 : (Tryz.prog.info? T).bind (·.zero) = some z) (h3 : (Tryz.prog.info? T).map (·.bytes) = some b) :
    ∃ i, Tryz.prog.info? T = some i ∧ i.zero = some z ∧ i.size = n ∧ i.bytes = b := by
  cases h : Tryz.prog.info? T with
  | none => rw [h] at h1; cases h1
  | some i =>
    rw [h] at h1 h2 h3
    exact ⟨i, rfl, by simpa using h2, by simpa using h1, by simpa using h3⟩
theorem append_int {w : World} {base : Nat} {v : Value} {L : List Int} {x : Int} {g c : Nat} (h : OwnI w base v L) (hx : w.cell? ⟨g, 0, none⟩ = some (.int .i64 x)) (hl : L.length ≤ 1000000) (hB : base ≤ w.heap.size) :
    ∃ v' w', (Builtin.append_ #[33, 33] 33 #[v, .slice (some ⟨g, 0, none⟩) 1 c]).run Tryz.prog w = .ok v' w' ∧ OwnI w' base v' (L ++ [x]) ∧ ∀ B b, B ≤ base → Exc B b w w' := by
  obtain ⟨i, hi, hz, hs, hb⟩ := info_of (T := 3) (z := .int .i64 0) (n := 1) (b := 8) (by kernel_rfl) (by kernel_rfl) (by kernel_rfl)
  obtain ⟨v', w', hr, ho, hg, -⟩ := run_append_own (P := Tryz.prog) w base 33 33 3 i (.int .i64 0) 1 8 Tryz.underlying33 hi hz hs hb rfl (by decide) v L.length _ h ⟨g, 0, none⟩ 1 c [.int .i64 x] rfl
    (fun j u hu => by
      cases j with
      | zero => obtain rfl : Value.int .i64 x = u := by simpa using hu
                exact hx
      | succ j => simp at hu) (by simp [Value.oneCell']) (by unfold maxLen; omega) (by omega) hB
  refine ⟨v', w', hr, ?_, fun B b hBb => exc_grown hg (fun g' hg' => Nat.le_trans hBb (h.lt g' hg').1) (Nat.le_trans hBb hB)⟩
  unfold OwnI
  simpa using ho
theorem append_nth {w : World} {base : Nat} {v : Value} {L : List (Int × Int)} {x y : Int} {g c : Nat} (h : OwnN w base v L) (hx : w.cell? ⟨g, 0, none⟩ = some (.int .i64 x)) (hy : w.cell? ⟨g, 1, none⟩ = some (.int .i64 y)) (hl : L.length ≤ 1000000) (hB : base ≤ w.heap.size) :
    ∃ v' w', (Builtin.append_ #[34, 34] 34 #[v, .slice (some ⟨g, 0, none⟩) 1 c]).run Tryz.prog w = .ok v' w' ∧ OwnN w' base v' (L ++ [(x, y)]) ∧ ∀ B b, B ≤ base → Exc B b w w' := by
  obtain ⟨i, hi, hz, hs, hb⟩ := info_of (T := 51) (z := .agg #[.int .i64 0, .int .i64 0]) (n := 2) (b := 16) (by kernel_rfl) (by kernel_rfl) (by kernel_rfl)
  obtain ⟨v', w', hr, ho, hg, -⟩ := run_append_own (P := Tryz.prog) w base 34 34 51 i (.agg #[.int .i64 0, .int .i64 0]) 2 16 Tryz.underlying34 hi hz hs hb rfl (by decide) v L.length _ h ⟨g, 0, none⟩ 1 c [.int .i64 x, .int .i64 y] rfl
    (fun j u hu => by
      match j with
      | 0 => obtain rfl : Value.int .i64 x = u := by simpa using hu
             exact hx
      | 1 => obtain rfl : Value.int .i64 y = u := by simpa using hu
             exact hy
      | j + 2 => simp at hu) (by simp [Value.oneCell']) (by unfold maxLen; omega) (by omega) hB
  refine ⟨v', w', hr, ?_, fun B b hBb => exc_grown hg (fun g' hg' => Nat.le_trans hBb (h.lt g' hg').1) (Nat.le_trans hBb hB)⟩
  unfold OwnN
  simpa using ho
section
variable {w w' : World} {ρ : Operand → Value} {o : Oper} {x y : Operand} {v s v' : Value} {n : Int}
theorem k_append {T : TypeId} (ho : o.op = .call ⟨.builtin .append, #[x, y], #[T, T]⟩) (ht : o.type = T) (hx : ρ x = v) (hy : ρ y = s) (hr : (Builtin.append_ #[T, T] T #[v, s]).run Tryz.prog w = .ok v' w') :
    (execOp ρ o).run Tryz.prog w = .ok (.value v') w' := by
  have e : (#[x, y] : Array Operand).map ρ = #[v, s] := by simp [hx, hy]
  simp only [execOp, ho, resolve, e, ht, invoke, builtin, Sem.run_bind, Sem.run_pure, Result.andThen_ok, hr]
theorem k_slice1 (ho : o.op = .buildSlice 33 1 #[(0, x)]) (hx : ρ x = .int .i64 n) :
    (execOp ρ o).run Tryz.prog w = .ok (.value (.slice (some ⟨w.heap.size, 0, none⟩) 1 1)) (w.alloc (.cells #[.int .i64 n] 3)) := by
  simp only [execOp, ho]
  go_simp
theorem k_slice2 {m : Int} (ho : o.op = .buildSlice 33 2 #[(0, x), (1, y)]) (hx : ρ x = .int .i64 n) (hy : ρ y = .int .i64 m) :
    (execOp ρ o).run Tryz.prog w = .ok (.value (.slice (some ⟨w.heap.size, 0, none⟩) 2 2)) (w.alloc (.cells #[.int .i64 n, .int .i64 m] 3)) := by
  simp only [execOp, ho]
  go_simp
theorem k_sliceN {m : Int} (ho : o.op = .buildSlice 34 1 #[(0, x)]) (hx : ρ x = .agg #[.int .i64 n, .int .i64 m]) :
    (execOp ρ o).run Tryz.prog w = .ok (.value (.slice (some ⟨w.heap.size, 0, none⟩) 1 1)) (w.alloc (.cells #[.int .i64 n, .int .i64 m] 51)) := by
  simp only [execOp, ho]
  go_simp
theorem k_buildN {m : Int} (ho : o.op = .build 51 #[(0, x), (1, y)]) (hx : ρ x = .int .i64 n) (hy : ρ y = .int .i64 m) :
    (execOp ρ o).run Tryz.prog w = .ok (.value (.agg #[.int .i64 n, .int .i64 m])) w := by
  simp only [execOp, ho]
  go_simp
theorem k_at {T : TypeId} {b k c : Nat} {i : Nat} (hT : T = 33) (ho : o.op = .indexAddr T x y) (hx : ρ x = .slice (some ⟨b, 0, none⟩) k c) (hy : ρ y = .int .i64 i) (hi : i < k) :
    (execOp ρ o).run Tryz.prog w = .ok (.value (.pointer (some ⟨b, i, none⟩))) w := by
  subst hT
  simp only [execOp, ho]
  go_simp
end
end Go.Proofs.YtnggajehngemmaaGreatDoor
