/-
  A rule as a text: rfc.Print.
-/
import Derived.Test.YtocpmljkmdpfkaaGreatDoorRf3
namespace Go.Proofs.YtocpmljkmdpfkaaGreatDoor
open Go.RowKit
/-- texts in a row of the call's own -/
def OwnS (w : World) (base : Nat) (v : Value) (L : List (List UInt8)) : Prop := w.ownsRow base 9 1 v L.length (L.map fun x => .string ⟨x.toArray⟩)
theorem OwnS.nil (w : World) (base : Nat) : OwnS w base (.slice none 0 0) [] := World.ownsRow_nil w base _ 1
theorem OwnS.below {w w' : World} {b : Nat} {v : Value} {L : List (List UInt8)} (h : OwnS w b v L) (e : Below w.heap.size w w') : OwnS w' b v L := by
  refine ⟨h.1, ?_⟩
  rcases h.2 with hn | ⟨g, cap, cur, rfl, hb, hg, rest⟩
  · exact .inl hn
  · exact .inr ⟨g, cap, cur, rfl, hb, (e.block g (Array.getElem?_eq_some_iff.1 hg).1).trans hg, rest⟩
theorem OwnS.form {w : World} {b : Nat} {v : Value} {L : List (List UInt8)} (h : OwnS w b v L) : ∃ A cap, v = .slice A L.length cap := by
  rcases h.2 with ⟨rfl, hn⟩ | ⟨g, cap, cur, rfl, -⟩
  · exact ⟨none, 0, by rw [hn]⟩
  · exact ⟨_, cap, rfl⟩
theorem OwnS.some {w : World} {b cap : Nat} {A : Option Addr} {L : List (List UInt8)} (h : OwnS w b (.slice A L.length cap) L) (hL : L ≠ []) : ∃ g, A = some ⟨g, 0, none⟩ ∧ g < w.heap.size ∧ L.length ≤ cap ∧ ∀ j (hj : j < L.length), w.cell? ⟨g, j, none⟩ = some (.string ⟨L[j].toArray⟩) := by
  rcases h.2 with ⟨e, hn⟩ | ⟨g, cap', cur, e, hb, hg, h1, h2, h3, h4⟩
  · exact (hL (List.eq_nil_of_length_eq_zero hn)).elim
  · obtain ⟨rfl, -, rfl⟩ := Value.slice.inj e
    refine ⟨g, rfl, (Array.getElem?_eq_some_iff.1 hg).1, h1, fun j hj => ?_⟩
    have hB : Blk w g _ cur := hg
    rw [hB.cell j]
    have : (cur.toList.take (L.length * 1))[j]? = Option.some (.string ⟨L[j].toArray⟩) := by rw [h4]; simp [hj]
    rw [List.getElem?_take] at this
    split at this
    · simpa using this
    · cases this
theorem append_str {w : World} {base : Nat} {v : Value} {L : List (List UInt8)} {x : List UInt8} {g c : Nat} (h : OwnS w base v L) (hx : w.cell? ⟨g, 0, none⟩ = some (.string ⟨x.toArray⟩)) (hl : L.length ≤ 1000000) (hB : base ≤ w.heap.size) :
    ∃ v' w', (Builtin.append_ #[45, 45] 45 #[v, .slice (some ⟨g, 0, none⟩) 1 c]).run Tryz.prog w = .ok v' w' ∧ OwnS w' base v' (L ++ [x]) ∧ Below base w w' ∧ w.heap.size ≤ w'.heap.size := by
  obtain ⟨i, hi, hz, hs, hb⟩ := info_of (T := 9) (z := .string ⟨#[]⟩) (n := 1) (b := 16) (by kernel_rfl) (by kernel_rfl) (by kernel_rfl)
  obtain ⟨v', w', hr, ho, hg, -⟩ := run_append_own (P := Tryz.prog) w base 45 45 9 i (.string ⟨#[]⟩) 1 16 Tryz.underlying45 hi hz hs hb rfl (by decide) v L.length _ h ⟨g, 0, none⟩ 1 c [.string ⟨x.toArray⟩] rfl
    (fun j u hu => by
      cases j with
      | zero => obtain rfl : Value.string ⟨x.toArray⟩ = u := by simpa using hu
                exact hx
      | succ j => simp at hu) (by simp [Value.oneCell']) (by unfold maxLen; omega) (by omega) hB
  refine ⟨v', w', hr, ?_, (exc_grown (b := base) hg (fun g' hg' => (World.ownsRow.lt h g' hg').1) hB).below (Nat.le_refl _), hg.size⟩
  unfold OwnS
  simpa using ho
namespace Rfc
theorem parts_snoc : ∀ (l : List (List UInt8)) (k : Nat) (v : List UInt8), parts k (l ++ [v]) = parts k l ++ (if v = [] then [] else [nm (k + l.length) ++ 61 :: v])
  | [], k, v => by
    show parts k [v] = [] ++ _
    unfold parts
    split <;> simp [parts]
  | x :: l, k, v => by
    have ih := parts_snoc l (k + 1) v
    rw [show k + 1 + l.length = k + (x :: l).length by simp; omega] at ih
    show parts k (x :: (l ++ [v])) = parts k (x :: l) ++ _
    conv => lhs; unfold parts
    conv => rhs; arg 1; unfold parts
    split
    · exact ih
    · rw [ih]; rfl
theorem parts_le : ∀ (l : List (List UInt8)) (k : Nat), (parts k l).length ≤ l.length
  | [], _ => Nat.le_refl _
  | v :: l, k => by
    unfold parts
    have := parts_le l (k + 1)
    split
    · simp; omega
    · simp; omega
theorem parts_mem {B : Nat} : ∀ (l : List (List UInt8)) (k : Nat), (∀ v ∈ l, v.length ≤ B) → ∀ p ∈ parts k l, p.length ≤ B + 11
  | [], _, _, _, hp => by cases hp
  | v :: l, k, h, p, hp => by
    unfold parts at hp
    have hn : (nm k).length ≤ 10 := by unfold nm; split <;> decide
    split at hp
    · exact parts_mem l (k + 1) (fun z hz => h z (List.mem_cons_of_mem _ hz)) p hp
    · rcases List.mem_cons.1 hp with rfl | hp
      · have := h v (by simp)
        simp
        omega
      · exact parts_mem l (k + 1) (fun z hz => h z (List.mem_cons_of_mem _ hz)) p hp
end Rfc
theorem vals_len {f iv c u : Int} {t : List UInt8} {M D : List Int} {K : List (Int × Int)} {P : List Int} (hok : Okay f iv c u t M D K P) : ∀ v ∈ Rfc.vals f iv c t M D K P, v.length ≤ 24000 := by
  have nl : ∀ l : List Int, l.length ≤ 1000 → (∀ x ∈ l, -9223372036854775808 ≤ x ∧ x ≤ 9223372036854775807) → (Rfc.nums l).length ≤ 24000 := fun l h1 h2 => by
    have := join_len 44 21 (l.map Lib.itoa) (fun x hx => by obtain ⟨y, hy, rfl⟩ := List.mem_map.1 hx; exact Lib.itoa_length_le y (h2 y hy).1 (h2 y hy).2)
    rw [List.length_map] at this
    unfold Rfc.nums
    omega
  have nd : (Rfc.days K).length ≤ 24000 := by
    have := join_len 44 23 (K.map Rfc.day) (fun x hx => by obtain ⟨y, hy, rfl⟩ := List.mem_map.1 hx; exact day_len y (hok.k y hy).1)
    rw [List.length_map] at this
    have := hok.lk
    unfold Rfc.days
    omega
  intro v hv
  simp only [Rfc.vals, List.mem_cons, List.not_mem_nil, or_false] at hv
  rcases hv with rfl | rfl | rfl | rfl | rfl | rfl | rfl | rfl
  · unfold Rfc.fq; split <;> decide
  · exact Nat.le_trans (num_len _ _ hok.iv) (by omega)
  · exact Nat.le_trans (num_len _ _ hok.c) (by omega)
  · rcases hok.u with ⟨-, rfl⟩ | ⟨y, m, d, -, rfl⟩
    · simp
    · simp [Rfc.date]
  · exact nl M hok.lm hok.m
  · exact nl D hok.ld hok.d
  · exact nd
  · exact nl P hok.lp hok.p
section
variable {w : World} {ρ : Operand → Value} {o : Oper} {x y z : Operand} {v u r : Value} {n m : Int} {q : Bool} {i : Nat} {b : ByteArray}
theorem k_loadPN (ho : o.op = .load 67 (.global 0)) (hg : ρ (.global 0) = .pointer (some ⟨0, 0, none⟩)) (hT : Tabs w) : (execOp ρ o).run Tryz.prog w = .ok (.value (.agg #[.string ⟨(Rfc.nm 0).toArray⟩, .string ⟨(Rfc.nm 1).toArray⟩, .string ⟨(Rfc.nm 2).toArray⟩, .string ⟨(Rfc.nm 3).toArray⟩, .string ⟨(Rfc.nm 4).toArray⟩, .string ⟨(Rfc.nm 5).toArray⟩, .string ⟨(Rfc.nm 6).toArray⟩, .string ⟨(Rfc.nm 7).toArray⟩])) w := by
  have c0 := hT.pn 0 (by omega); have c1 := hT.pn 1 (by omega); have c2 := hT.pn 2 (by omega); have c3 := hT.pn 3 (by omega); have c4 := hT.pn 4 (by omega); have c5 := hT.pn 5 (by omega); have c6 := hT.pn 6 (by omega); have c7 := hT.pn 7 (by omega)
  clear hT
  simp only [execOp, ho]
  go_simp
theorem idxPN0 (w : World) : (Instr.index 67 (.agg #[.string ⟨(Rfc.nm 0).toArray⟩, .string ⟨(Rfc.nm 1).toArray⟩, .string ⟨(Rfc.nm 2).toArray⟩, .string ⟨(Rfc.nm 3).toArray⟩, .string ⟨(Rfc.nm 4).toArray⟩, .string ⟨(Rfc.nm 5).toArray⟩, .string ⟨(Rfc.nm 6).toArray⟩, .string ⟨(Rfc.nm 7).toArray⟩]) (.int .i64 0)).run Tryz.prog w = .ok (.string ⟨(Rfc.nm 0).toArray⟩) w := by kernel_rfl
theorem idxPN1 (w : World) : (Instr.index 67 (.agg #[.string ⟨(Rfc.nm 0).toArray⟩, .string ⟨(Rfc.nm 1).toArray⟩, .string ⟨(Rfc.nm 2).toArray⟩, .string ⟨(Rfc.nm 3).toArray⟩, .string ⟨(Rfc.nm 4).toArray⟩, .string ⟨(Rfc.nm 5).toArray⟩, .string ⟨(Rfc.nm 6).toArray⟩, .string ⟨(Rfc.nm 7).toArray⟩]) (.int .i64 1)).run Tryz.prog w = .ok (.string ⟨(Rfc.nm 1).toArray⟩) w := by kernel_rfl
theorem idxPN2 (w : World) : (Instr.index 67 (.agg #[.string ⟨(Rfc.nm 0).toArray⟩, .string ⟨(Rfc.nm 1).toArray⟩, .string ⟨(Rfc.nm 2).toArray⟩, .string ⟨(Rfc.nm 3).toArray⟩, .string ⟨(Rfc.nm 4).toArray⟩, .string ⟨(Rfc.nm 5).toArray⟩, .string ⟨(Rfc.nm 6).toArray⟩, .string ⟨(Rfc.nm 7).toArray⟩]) (.int .i64 2)).run Tryz.prog w = .ok (.string ⟨(Rfc.nm 2).toArray⟩) w := by kernel_rfl
theorem idxPN3 (w : World) : (Instr.index 67 (.agg #[.string ⟨(Rfc.nm 0).toArray⟩, .string ⟨(Rfc.nm 1).toArray⟩, .string ⟨(Rfc.nm 2).toArray⟩, .string ⟨(Rfc.nm 3).toArray⟩, .string ⟨(Rfc.nm 4).toArray⟩, .string ⟨(Rfc.nm 5).toArray⟩, .string ⟨(Rfc.nm 6).toArray⟩, .string ⟨(Rfc.nm 7).toArray⟩]) (.int .i64 3)).run Tryz.prog w = .ok (.string ⟨(Rfc.nm 3).toArray⟩) w := by kernel_rfl
theorem idxPN4 (w : World) : (Instr.index 67 (.agg #[.string ⟨(Rfc.nm 0).toArray⟩, .string ⟨(Rfc.nm 1).toArray⟩, .string ⟨(Rfc.nm 2).toArray⟩, .string ⟨(Rfc.nm 3).toArray⟩, .string ⟨(Rfc.nm 4).toArray⟩, .string ⟨(Rfc.nm 5).toArray⟩, .string ⟨(Rfc.nm 6).toArray⟩, .string ⟨(Rfc.nm 7).toArray⟩]) (.int .i64 4)).run Tryz.prog w = .ok (.string ⟨(Rfc.nm 4).toArray⟩) w := by kernel_rfl
theorem idxPN5 (w : World) : (Instr.index 67 (.agg #[.string ⟨(Rfc.nm 0).toArray⟩, .string ⟨(Rfc.nm 1).toArray⟩, .string ⟨(Rfc.nm 2).toArray⟩, .string ⟨(Rfc.nm 3).toArray⟩, .string ⟨(Rfc.nm 4).toArray⟩, .string ⟨(Rfc.nm 5).toArray⟩, .string ⟨(Rfc.nm 6).toArray⟩, .string ⟨(Rfc.nm 7).toArray⟩]) (.int .i64 5)).run Tryz.prog w = .ok (.string ⟨(Rfc.nm 5).toArray⟩) w := by kernel_rfl
theorem idxPN6 (w : World) : (Instr.index 67 (.agg #[.string ⟨(Rfc.nm 0).toArray⟩, .string ⟨(Rfc.nm 1).toArray⟩, .string ⟨(Rfc.nm 2).toArray⟩, .string ⟨(Rfc.nm 3).toArray⟩, .string ⟨(Rfc.nm 4).toArray⟩, .string ⟨(Rfc.nm 5).toArray⟩, .string ⟨(Rfc.nm 6).toArray⟩, .string ⟨(Rfc.nm 7).toArray⟩]) (.int .i64 6)).run Tryz.prog w = .ok (.string ⟨(Rfc.nm 6).toArray⟩) w := by kernel_rfl
theorem idxPN7 (w : World) : (Instr.index 67 (.agg #[.string ⟨(Rfc.nm 0).toArray⟩, .string ⟨(Rfc.nm 1).toArray⟩, .string ⟨(Rfc.nm 2).toArray⟩, .string ⟨(Rfc.nm 3).toArray⟩, .string ⟨(Rfc.nm 4).toArray⟩, .string ⟨(Rfc.nm 5).toArray⟩, .string ⟨(Rfc.nm 6).toArray⟩, .string ⟨(Rfc.nm 7).toArray⟩]) (.int .i64 7)).run Tryz.prog w = .ok (.string ⟨(Rfc.nm 7).toArray⟩) w := by kernel_rfl
theorem idxPN (i : Nat) (hi : i < 8) (w : World) : (Instr.index 67 (.agg #[.string ⟨(Rfc.nm 0).toArray⟩, .string ⟨(Rfc.nm 1).toArray⟩, .string ⟨(Rfc.nm 2).toArray⟩, .string ⟨(Rfc.nm 3).toArray⟩, .string ⟨(Rfc.nm 4).toArray⟩, .string ⟨(Rfc.nm 5).toArray⟩, .string ⟨(Rfc.nm 6).toArray⟩, .string ⟨(Rfc.nm 7).toArray⟩]) (.int .i64 i)).run Tryz.prog w = .ok (.string ⟨(Rfc.nm i).toArray⟩) w := by
  match i, hi with
  | 0, _ => exact idxPN0 w
  | 1, _ => exact idxPN1 w
  | 2, _ => exact idxPN2 w
  | 3, _ => exact idxPN3 w
  | 4, _ => exact idxPN4 w
  | 5, _ => exact idxPN5 w
  | 6, _ => exact idxPN6 w
  | 7, _ => exact idxPN7 w
theorem k_idxPN (ho : o.op = .index 67 x y) (hx : ρ x = .agg #[.string ⟨(Rfc.nm 0).toArray⟩, .string ⟨(Rfc.nm 1).toArray⟩, .string ⟨(Rfc.nm 2).toArray⟩, .string ⟨(Rfc.nm 3).toArray⟩, .string ⟨(Rfc.nm 4).toArray⟩, .string ⟨(Rfc.nm 5).toArray⟩, .string ⟨(Rfc.nm 6).toArray⟩, .string ⟨(Rfc.nm 7).toArray⟩]) (hy : ρ y = .int .i64 i) (hi : i < 8) : (execOp ρ o).run Tryz.prog w = .ok (.value (.string ⟨(Rfc.nm i).toArray⟩)) w := by
  have hr := idxPN i hi w
  simp only [execOp, ho, hx, hy, Sem.run_bind, hr, Result.andThen_ok, Sem.run_pure]
theorem k_sliceS (ho : o.op = .buildSlice 45 1 #[(0, x)]) (hx : ρ x = .string b) : (execOp ρ o).run Tryz.prog w = .ok (.value (.slice (some ⟨w.heap.size, 0, none⟩) 1 1)) (w.alloc (.cells #[.string b] 9)) := by
  simp only [execOp, ho]
  go_simp
theorem o_neE {n m : Int} {q : Bool} (ho : o.op = .binOp .neq 39 x y 39) (hx : ρ x = .int .i64 n) (hy : ρ y = .int .i64 m) (hr : (n != m) = q) : (execOp ρ o).run Tryz.prog w = .ok (.value (.bool q)) w := by
  subst hr
  simp only [execOp, ho, hx, hy]
  go_simp
theorem c_pv (ho : o.op = .call ⟨.value (.func 28), #[x, y], #[36, 69]⟩) (hf : ρ (.func 28) = .func (.func 28) #[] #[]) (hx : ρ x = v) (hy : ρ y = u) : (execOp ρ o).run Tryz.prog w = .ok (.enter 28 #[v, u]) w := by
  simp only [execOp, ho]
  go_simp
end
theorem ne_nil (l : List UInt8) : ((⟨l.toArray⟩ : ByteArray).toList != (⟨#[]⟩ : ByteArray).toList) = !(l == []) := by
  have e : ∀ l : List UInt8, (⟨l.toArray⟩ : ByteArray).toList = l := fun l => by rw [ByteArray.toList_eq]
  have e0 := e []
  rw [e l]
  rw [show (⟨#[]⟩ : ByteArray).toList = [] from e0]
  rfl
noncomputable def prBody : Code := Tryz.f10.body.getD .skip
noncomputable def prRound : Code := (Tryz.f10.body.bind loopOf).getD .skip
structure LpR (w0 : World) (rb base : Nat) (f iv c u : Int) (t : List UInt8) (AM AD AW AP : Option Addr) (cM cD cW cP : Nat) (M D : List Int) (K : List (Int × Int)) (P : List Int) (i : Nat) (A : Option Addr) (cap : Nat) (a : Act) (w : World) : Prop where
  d : a.defers = []
  z : a.tmps.size = 30
  s1 : a.tmps.getD 1 undef = .pointer (some ⟨rb, 0, none⟩)
  s3 : a.tmps.getD 3 undef = .slice A (Rfc.parts 0 ((Rfc.vals f iv c t M D K P).take i)).length cap
  s10 : a.tmps.getD 10 undef = .agg #[.string ⟨(Rfc.nm 0).toArray⟩, .string ⟨(Rfc.nm 1).toArray⟩, .string ⟨(Rfc.nm 2).toArray⟩, .string ⟨(Rfc.nm 3).toArray⟩, .string ⟨(Rfc.nm 4).toArray⟩, .string ⟨(Rfc.nm 5).toArray⟩, .string ⟨(Rfc.nm 6).toArray⟩, .string ⟨(Rfc.nm 7).toArray⟩]
  s11 : a.tmps.getD 11 undef = .int .i64 i
  iN : i ≤ 8
  o : OwnS w base (.slice A (Rfc.parts 0 ((Rfc.vals f iv c t M D K P).take i)).length cap) (Rfc.parts 0 ((Rfc.vals f iv c t M D K P).take i))
  Br : Blk w rb 36 #[.int .i64 f, .int .i64 iv, .int .i64 c, .int .i64 u, .slice AM M.length cM, .slice AD D.length cD, .slice AW K.length cW, .slice AP P.length cP]
  bs : rb < base ∧ base ≤ w.heap.size ∧ w0.heap.size ≤ rb
  b : Below w0.heap.size w0 w

set_option maxRecDepth 100000 in
set_option maxHeartbeats 1000000 in
theorem pr_none (w0 : World) (rb base : Nat) (f iv c u : Int) (t : List UInt8) (AM AD AW AP : Option Addr) (cM cD cW cP : Nat) (M D : List Int) (K : List (Int × Int)) (P : List Int) (hT : Tabs w0) (hL : ListsIn w0 AM AD AW AP M D K P) (hok : Okay f iv c u t M D K P) (i : Nat) (A : Option Addr) (cap : Nat) (a : Act) (w : World) (Q : Exit → Act → World → Prop) (J : LpR w0 rb base f iv c u t AM AD AW AP cM cD cW cP M D K P i A cap a w) (hlt : i < 8) (hxe : (((Rfc.vals f iv c t M D K P).getD i []) == []) = true) :
    prRound.wp Tryz.prog (Exit.then (fun a' w' => (∃ i A cap, LpR w0 rb base f iv c u t AM AD AW AP cM cD cW cP M D K P i A cap a' w') ∧ (8 - intOf (a'.tmps.getD 11 undef)).toNat < (8 - intOf (a.tmps.getD 11 undef)).toNat) Q) a w := by
  obtain ⟨hd, hs, h1, h3, h10, h11, hi, hO, Br, bs, hb⟩ := J
  have hV8 : (Rfc.vals f iv c t M D K P).length = 8 := rfl
  have ek : (Rfc.vals f iv c t M D K P).take (i + 1) = (Rfc.vals f iv c t M D K P).take i ++ [((Rfc.vals f iv c t M D K P).getD i [])] := by
    rw [List.take_succ_eq_append_getElem (by omega)]
    simp [hlt, hV8]
  have eP : Rfc.parts 0 ((Rfc.vals f iv c t M D K P).take (i + 1)) = Rfc.parts 0 ((Rfc.vals f iv c t M D K P).take i) ++ (if ((Rfc.vals f iv c t M D K P).getD i []) = [] then [] else [Rfc.nm i ++ 61 :: ((Rfc.vals f iv c t M D K P).getD i [])]) := by
    rw [ek, Rfc.parts_snoc, List.length_take, hV8, show 0 + min i 8 = i by omega]
  have eN' : Rfc.parts 0 ((Rfc.vals f iv c t M D K P).take i) = Rfc.parts 0 ((Rfc.vals f iv c t M D K P).take (i + 1)) := by rw [eP, if_pos (by simpa using hxe)]; simp
  clear eP ek
  have e11 := h11
  rw [e11]
  clear e11
  unfold prRound
  conv => arg 2; whnf
  refine wp_seq ?_
  refine wp_region (show wpOps _ _ _ [0] _ _ from ?_)
  refine opL 0 12 (v := .bool true) (w' := w) (by kernel_rfl) (frZ hs) ?_ ?_
  · exact frY rfl (o_ltI rfl (ev_tmp h11) rfl (decide_eq_true (by omega)))
  refine frN4 hs hd h1 h3 h10 h11 ?_; clear hs hd h1 h3 h10 h11; intro a hs hd h1 h3 h10 h11 h12
  refine wp_seq ?_
  refine wp_cond_true (ev_tmp h12) ?_
  refine wp_skip ?_
  refine wp_seq ?_
  refine wp_block ?_
  refine wp_seq ?_
  refine wp_region (show wpOps _ _ _ [0, 1, 2, 3] _ _ from ?_)
  refine opL 0 13 (v := .int .i64 i) (w' := w) (by kernel_rfl) (frZ hs) ?_ ?_
  · exact frY rfl (k_move rfl (ev_tmp h11))
  revert hs hd h1 h3 h10 h11 h12; refine frM5 ?_; intro a hs hd h1 h3 h10 h11 h12 h13
  refine opL 1 14 (v := .string ⟨(Rfc.nm i).toArray⟩) (w' := w) (by kernel_rfl) (frZ hs) ?_ ?_
  · exact frY rfl (k_idxPN rfl (ev_tmp h10) (ev_tmp h11) hlt)
  revert hs hd h1 h3 h10 h11 h12 h13; refine frM6 ?_; intro a hs hd h1 h3 h10 h11 h12 h13 h14
  refine opL 2 4 (v := .int .i64 i) (w' := w) (by kernel_rfl) (frZ hs) ?_ ?_
  · exact frY rfl (k_assign rfl (ev_tmp h13))
  clear h13; revert hs hd h1 h3 h10 h11 h12 h14; refine frM6 ?_; intro a hs hd h1 h3 h10 h11 h12 h14 h4
  refine opL 3 5 (v := .string ⟨(Rfc.nm i).toArray⟩) (w' := w) (by kernel_rfl) (frZ hs) ?_ ?_
  · exact frY rfl (k_assign rfl (ev_tmp h14))
  clear h14; revert hs hd h1 h3 h10 h11 h12 h4; refine frM6 ?_; intro a hs hd h1 h3 h10 h11 h12 h4 h5
  refine wp_seq ?_
  refine wp_region (show wpOps _ _ _ [0, 1, 2, 3] _ _ from ?_)
  refine opL 0 15 (v := .agg #[.int .i64 f, .int .i64 iv, .int .i64 c, .int .i64 u, .slice AM M.length cM, .slice AD D.length cD, .slice AW K.length cW, .slice AP P.length cP]) (w' := w) (by kernel_rfl) (frZ hs) ?_ ?_
  · exact frY rfl (k_loadR rfl (ev_tmp h1) Br.rule)
  revert hs hd h1 h3 h10 h11 h12 h4 h5; refine frM7 ?_; intro a hs hd h1 h3 h10 h11 h12 h4 h5 h15
  refine opL 1 16 (v := .int .i64 i) (w' := w) (by kernel_rfl) (frZ hs) ?_ ?_
  · exact frY rfl (k_move rfl (ev_tmp h4))
  revert hs hd h1 h3 h10 h11 h12 h4 h5 h15; refine frM8 ?_; intro a hs hd h1 h3 h10 h11 h12 h4 h5 h15 h16
  have hc := pv_any f iv c u t AM AD AW AP cM cD cW cP M D K P i hlt w (hT.below hb) (hL.below hb) hok
  have hx := fun ops Q rest d a i h1 h2 h3 => opL_call (P := Tryz.prog) (ops := ops) (Q := Q) (a := a) (w := w) (rest := rest) i d h1 h2 h3 hc
  refine hx _ _ _ 17 _ 2 ?z301a ?z301b ?z301 ?z302
  case z301a => kernel_rfl
  case z301b => (rw [hs]; decide)
  case z301 => exact frY rfl (c_pv rfl rfl (ev_tmp h15) (ev_tmp h16))
  case z302 =>
  rintro _ w2 a ⟨rfl, l2⟩ F0
  replace hs := F0.z.trans hs
  replace hd := F0.e.trans hd
  replace h1 := (F0.n 1 (by decide)).trans h1
  replace h3 := (F0.n 3 (by decide)).trans h3
  replace h10 := (F0.n 10 (by decide)).trans h10
  replace h11 := (F0.n 11 (by decide)).trans h11
  replace h12 := (F0.n 12 (by decide)).trans h12
  replace h4 := (F0.n 4 (by decide)).trans h4
  replace h5 := (F0.n 5 (by decide)).trans h5
  clear h15
  clear h16
  have h17 := F0.s
  clear F0
  clear hx hc
  replace Br := Br.below l2 Br.lt
  replace hO := hO.below l2
  replace hb := hb.trans (l2.mono hb.size)
  have hbs2 : base ≤ w2.heap.size := Nat.le_trans bs.2.1 l2.size
  refine opL 3 6 (v := .string ⟨(((Rfc.vals f iv c t M D K P).getD i [])).toArray⟩) (w' := w2) (by kernel_rfl) (frZ hs) ?_ ?_
  · exact frY rfl (k_assign rfl (ev_tmp h17))
  refine frN7 hs hd h1 h3 h10 h11 h12 h4 h5 ?_; clear hs hd h1 h3 h10 h11 h12 h4 h5 h17; intro a hs hd h1 h3 h10 h11 h12 h4 h5 h6
  refine wp_seq ?_
  refine wp_region (show wpOps _ _ _ [0, 1] _ _ from ?_)
  refine opL 0 18 (v := .string ⟨(((Rfc.vals f iv c t M D K P).getD i [])).toArray⟩) (w' := w2) (by kernel_rfl) (frZ hs) ?_ ?_
  · exact frY rfl (k_move rfl (ev_tmp h6))
  revert hs hd h1 h3 h10 h11 h12 h4 h5 h6; refine frM8 ?_; intro a hs hd h1 h3 h10 h11 h12 h4 h5 h6 h18
  refine opL 1 19 (v := .bool false) (w' := w2) (by kernel_rfl) (frZ hs) ?_ ?_
  · exact frY rfl (o_neStr rfl (ev_tmp h18) rfl (by rw [ne_nil, hxe]; rfl))
  clear h18; revert hs hd h1 h3 h10 h11 h12 h4 h5 h6; refine frM8 ?_; intro a hs hd h1 h3 h10 h11 h12 h4 h5 h6 h19
  refine wp_cond_false (ev_tmp h19) ?_
  refine wp_skip ?_
  refine wp_region (show wpOps _ _ _ [0, 1] _ _ from ?_)
  refine opL 0 27 (v := .int .i64 (i + 1 : Nat)) (w' := w2) (by kernel_rfl) (frZ hs) ?_ ?_
  · exact frY rfl (o_addI rfl (ev_tmp h11) rfl (wrap_small (n := (i : Int) + 1) (by omega) (by omega)))
  revert hs hd h1 h3 h10 h11 h12 h4 h5 h6 h19; refine frM9 ?_; intro a hs hd h1 h3 h10 h11 h12 h4 h5 h6 h19 h27
  refine opL 1 11 (v := .int .i64 (i + 1 : Nat)) (w' := w2) (by kernel_rfl) (frZ hs) ?_ ?_
  · exact frY rfl (k_move rfl (ev_tmp h27))
  clear h11 h27; revert hs hd h1 h3 h10 h12 h4 h5 h6 h19; refine frM8 ?_; intro a hs hd h1 h3 h10 h12 h4 h5 h6 h19 h11
  rw [eN'] at h3 hO
  refine ⟨⟨i + 1, A, cap, hd, hs, h1, h3, h10, h11, hlt, hO, Br, ⟨bs.1, hbs2, bs.2.2⟩, hb⟩, ?_⟩
  rw [h11]
  simp only [intOf]
  omega

set_option maxRecDepth 100000 in
set_option maxHeartbeats 1000000 in
theorem pr_some (w0 : World) (rb base : Nat) (f iv c u : Int) (t : List UInt8) (AM AD AW AP : Option Addr) (cM cD cW cP : Nat) (M D : List Int) (K : List (Int × Int)) (P : List Int) (hT : Tabs w0) (hL : ListsIn w0 AM AD AW AP M D K P) (hok : Okay f iv c u t M D K P) (i : Nat) (A : Option Addr) (cap : Nat) (a : Act) (w : World) (Q : Exit → Act → World → Prop) (J : LpR w0 rb base f iv c u t AM AD AW AP cM cD cW cP M D K P i A cap a w) (hlt : i < 8) (hxe : (((Rfc.vals f iv c t M D K P).getD i []) == []) = false) :
    prRound.wp Tryz.prog (Exit.then (fun a' w' => (∃ i A cap, LpR w0 rb base f iv c u t AM AD AW AP cM cD cW cP M D K P i A cap a' w') ∧ (8 - intOf (a'.tmps.getD 11 undef)).toNat < (8 - intOf (a.tmps.getD 11 undef)).toNat) Q) a w := by
  obtain ⟨hd, hs, h1, h3, h10, h11, hi, hO, Br, bs, hb⟩ := J
  have hV8 : (Rfc.vals f iv c t M D K P).length = 8 := rfl
  have ek : (Rfc.vals f iv c t M D K P).take (i + 1) = (Rfc.vals f iv c t M D K P).take i ++ [((Rfc.vals f iv c t M D K P).getD i [])] := by
    rw [List.take_succ_eq_append_getElem (by omega)]
    simp [hlt, hV8]
  have eP : Rfc.parts 0 ((Rfc.vals f iv c t M D K P).take (i + 1)) = Rfc.parts 0 ((Rfc.vals f iv c t M D K P).take i) ++ (if ((Rfc.vals f iv c t M D K P).getD i []) = [] then [] else [Rfc.nm i ++ 61 :: ((Rfc.vals f iv c t M D K P).getD i [])]) := by
    rw [ek, Rfc.parts_snoc, List.length_take, hV8, show 0 + min i 8 = i by omega]
  have eN : Rfc.parts 0 ((Rfc.vals f iv c t M D K P).take (i + 1)) = Rfc.parts 0 ((Rfc.vals f iv c t M D K P).take i) ++ [Rfc.nm i ++ 61 :: ((Rfc.vals f iv c t M D K P).getD i [])] := by rw [eP, if_neg (by simpa using hxe)]
  have hln : (Rfc.nm i).length ≤ 10 := by unfold Rfc.nm; split <;> decide
  have hlx : ((Rfc.vals f iv c t M D K P).getD i []).length ≤ 24000 := vals_len hok _ (by rw [show ((Rfc.vals f iv c t M D K P).getD i []) = (Rfc.vals f iv c t M D K P)[i]'(by omega) by simp [hlt, hV8]]; exact List.getElem_mem _)
  have bz : ∀ l : List UInt8, (⟨l.toArray⟩ : ByteArray).size = l.length := fun l => by show l.toArray.size = _; simp
  have hsz1 : (⟨(Rfc.nm i).toArray⟩ : ByteArray).size + (⟨#[61]⟩ : ByteArray).size ≤ 1000000 := by rw [bz]; show _ + 1 ≤ _; omega
  have hsz2 : (⟨((Rfc.nm i ++ [61])).toArray⟩ : ByteArray).size + (⟨(((Rfc.vals f iv c t M D K P).getD i [])).toArray⟩ : ByteArray).size ≤ 1000000 := by rw [bz, bz, List.length_append]; show _ + 1 + _ ≤ _; omega
  clear bz
  clear eP ek
  have e11 := h11
  rw [e11]
  clear e11
  unfold prRound
  conv => arg 2; whnf
  refine wp_seq ?_
  refine wp_region (show wpOps _ _ _ [0] _ _ from ?_)
  refine opL 0 12 (v := .bool true) (w' := w) (by kernel_rfl) (frZ hs) ?_ ?_
  · exact frY rfl (o_ltI rfl (ev_tmp h11) rfl (decide_eq_true (by omega)))
  refine frN4 hs hd h1 h3 h10 h11 ?_; clear hs hd h1 h3 h10 h11; intro a hs hd h1 h3 h10 h11 h12
  refine wp_seq ?_
  refine wp_cond_true (ev_tmp h12) ?_
  refine wp_skip ?_
  refine wp_seq ?_
  refine wp_block ?_
  refine wp_seq ?_
  refine wp_region (show wpOps _ _ _ [0, 1, 2, 3] _ _ from ?_)
  refine opL 0 13 (v := .int .i64 i) (w' := w) (by kernel_rfl) (frZ hs) ?_ ?_
  · exact frY rfl (k_move rfl (ev_tmp h11))
  revert hs hd h1 h3 h10 h11 h12; refine frM5 ?_; intro a hs hd h1 h3 h10 h11 h12 h13
  refine opL 1 14 (v := .string ⟨(Rfc.nm i).toArray⟩) (w' := w) (by kernel_rfl) (frZ hs) ?_ ?_
  · exact frY rfl (k_idxPN rfl (ev_tmp h10) (ev_tmp h11) hlt)
  revert hs hd h1 h3 h10 h11 h12 h13; refine frM6 ?_; intro a hs hd h1 h3 h10 h11 h12 h13 h14
  refine opL 2 4 (v := .int .i64 i) (w' := w) (by kernel_rfl) (frZ hs) ?_ ?_
  · exact frY rfl (k_assign rfl (ev_tmp h13))
  clear h13; revert hs hd h1 h3 h10 h11 h12 h14; refine frM6 ?_; intro a hs hd h1 h3 h10 h11 h12 h14 h4
  refine opL 3 5 (v := .string ⟨(Rfc.nm i).toArray⟩) (w' := w) (by kernel_rfl) (frZ hs) ?_ ?_
  · exact frY rfl (k_assign rfl (ev_tmp h14))
  clear h14; revert hs hd h1 h3 h10 h11 h12 h4; refine frM6 ?_; intro a hs hd h1 h3 h10 h11 h12 h4 h5
  refine wp_seq ?_
  refine wp_region (show wpOps _ _ _ [0, 1, 2, 3] _ _ from ?_)
  refine opL 0 15 (v := .agg #[.int .i64 f, .int .i64 iv, .int .i64 c, .int .i64 u, .slice AM M.length cM, .slice AD D.length cD, .slice AW K.length cW, .slice AP P.length cP]) (w' := w) (by kernel_rfl) (frZ hs) ?_ ?_
  · exact frY rfl (k_loadR rfl (ev_tmp h1) Br.rule)
  revert hs hd h1 h3 h10 h11 h12 h4 h5; refine frM7 ?_; intro a hs hd h1 h3 h10 h11 h12 h4 h5 h15
  refine opL 1 16 (v := .int .i64 i) (w' := w) (by kernel_rfl) (frZ hs) ?_ ?_
  · exact frY rfl (k_move rfl (ev_tmp h4))
  revert hs hd h1 h3 h10 h11 h12 h4 h5 h15; refine frM8 ?_; intro a hs hd h1 h3 h10 h11 h12 h4 h5 h15 h16
  have hc := pv_any f iv c u t AM AD AW AP cM cD cW cP M D K P i hlt w (hT.below hb) (hL.below hb) hok
  have hx := fun ops Q rest d a i h1 h2 h3 => opL_call (P := Tryz.prog) (ops := ops) (Q := Q) (a := a) (w := w) (rest := rest) i d h1 h2 h3 hc
  refine hx _ _ _ 17 _ 2 ?z327a ?z327b ?z327 ?z328
  case z327a => kernel_rfl
  case z327b => (rw [hs]; decide)
  case z327 => exact frY rfl (c_pv rfl rfl (ev_tmp h15) (ev_tmp h16))
  case z328 =>
  rintro _ w2 a ⟨rfl, l2⟩ F0
  replace hs := F0.z.trans hs
  replace hd := F0.e.trans hd
  replace h1 := (F0.n 1 (by decide)).trans h1
  replace h3 := (F0.n 3 (by decide)).trans h3
  replace h10 := (F0.n 10 (by decide)).trans h10
  replace h11 := (F0.n 11 (by decide)).trans h11
  replace h12 := (F0.n 12 (by decide)).trans h12
  replace h4 := (F0.n 4 (by decide)).trans h4
  replace h5 := (F0.n 5 (by decide)).trans h5
  clear h15
  clear h16
  have h17 := F0.s
  clear F0
  clear hx hc
  replace Br := Br.below l2 Br.lt
  replace hO := hO.below l2
  replace hb := hb.trans (l2.mono hb.size)
  have hbs2 : base ≤ w2.heap.size := Nat.le_trans bs.2.1 l2.size
  refine opL 3 6 (v := .string ⟨(((Rfc.vals f iv c t M D K P).getD i [])).toArray⟩) (w' := w2) (by kernel_rfl) (frZ hs) ?_ ?_
  · exact frY rfl (k_assign rfl (ev_tmp h17))
  refine frN7 hs hd h1 h3 h10 h11 h12 h4 h5 ?_; clear hs hd h1 h3 h10 h11 h12 h4 h5 h17; intro a hs hd h1 h3 h10 h11 h12 h4 h5 h6
  refine wp_seq ?_
  refine wp_region (show wpOps _ _ _ [0, 1] _ _ from ?_)
  refine opL 0 18 (v := .string ⟨(((Rfc.vals f iv c t M D K P).getD i [])).toArray⟩) (w' := w2) (by kernel_rfl) (frZ hs) ?_ ?_
  · exact frY rfl (k_move rfl (ev_tmp h6))
  revert hs hd h1 h3 h10 h11 h12 h4 h5 h6; refine frM8 ?_; intro a hs hd h1 h3 h10 h11 h12 h4 h5 h6 h18
  refine opL 1 19 (v := .bool true) (w' := w2) (by kernel_rfl) (frZ hs) ?_ ?_
  · exact frY rfl (o_neStr rfl (ev_tmp h18) rfl (by rw [ne_nil, hxe]; rfl))
  clear h18; revert hs hd h1 h3 h10 h11 h12 h4 h5 h6; refine frM8 ?_; intro a hs hd h1 h3 h10 h11 h12 h4 h5 h6 h19
  refine wp_cond_true (ev_tmp h19) ?_
  refine wp_region (show wpOps _ _ _ [0, 1, 2, 3, 4, 5, 6, 7] _ _ from ?_)
  refine opL 0 20 (v := .slice A (Rfc.parts 0 ((Rfc.vals f iv c t M D K P).take i)).length cap) (w' := w2) (by kernel_rfl) (frZ hs) ?_ ?_
  · exact frY rfl (k_move rfl (ev_tmp h3))
  revert hs hd h1 h3 h10 h11 h12 h4 h5 h6 h19; refine frM9 ?_; intro a hs hd h1 h3 h10 h11 h12 h4 h5 h6 h19 h20
  refine opL 1 21 (v := .string ⟨(Rfc.nm i).toArray⟩) (w' := w2) (by kernel_rfl) (frZ hs) ?_ ?_
  · exact frY rfl (k_move rfl (ev_tmp h5))
  revert hs hd h1 h3 h10 h11 h12 h4 h5 h6 h19 h20; refine frM10 ?_; intro a hs hd h1 h3 h10 h11 h12 h4 h5 h6 h19 h20 h21
  refine opL 2 22 (v := .string ⟨((Rfc.nm i ++ [61])).toArray⟩) (w' := w2) (by kernel_rfl) (frZ hs) ?_ ?_
  · exact frY rfl (o_addStr rfl (ev_tmp h21) rfl hsz1 (ba_append _ [61]))
  clear h21; revert hs hd h1 h3 h10 h11 h12 h4 h5 h6 h19 h20; refine frM10 ?_; intro a hs hd h1 h3 h10 h11 h12 h4 h5 h6 h19 h20 h22
  refine opL 3 23 (v := .string ⟨(((Rfc.vals f iv c t M D K P).getD i [])).toArray⟩) (w' := w2) (by kernel_rfl) (frZ hs) ?_ ?_
  · exact frY rfl (k_move rfl (ev_tmp h6))
  revert hs hd h1 h3 h10 h11 h12 h4 h5 h6 h19 h20 h22; refine frM11 ?_; intro a hs hd h1 h3 h10 h11 h12 h4 h5 h6 h19 h20 h22 h23
  refine opL 4 24 (v := .string ⟨((Rfc.nm i ++ 61 :: ((Rfc.vals f iv c t M D K P).getD i []))).toArray⟩) (w' := w2) (by kernel_rfl) (frZ hs) ?_ ?_
  · exact frY rfl (o_addStr rfl (ev_tmp h22) (ev_tmp h23) hsz2 (by rw [ba_append]; simp))
  clear h22 h23; revert hs hd h1 h3 h10 h11 h12 h4 h5 h6 h19 h20; refine frM10 ?_; intro a hs hd h1 h3 h10 h11 h12 h4 h5 h6 h19 h20 h24
  refine opL 5 25 (v := .slice (some ⟨w2.heap.size, 0, none⟩) 1 1) (w' := (w2.alloc (.cells #[.string ⟨((Rfc.nm i ++ 61 :: ((Rfc.vals f iv c t M D K P).getD i []))).toArray⟩] 9))) (by kernel_rfl) (frZ hs) ?_ ?_
  · exact frY rfl (k_sliceS rfl (ev_tmp h24))
  clear h24; revert hs hd h1 h3 h10 h11 h12 h4 h5 h6 h19 h20; refine frM10 ?_; intro a hs hd h1 h3 h10 h11 h12 h4 h5 h6 h19 h20 h25
  obtain ⟨w3, hw3⟩ : ∃ wn, wn = w2.alloc (.cells #[.string ⟨((Rfc.nm i ++ 61 :: ((Rfc.vals f iv c t M D K P).getD i []))).toArray⟩] 9) := ⟨_, rfl⟩
  rw [← hw3]
  have q3 : Blk w3 w2.heap.size 9 #[.string ⟨((Rfc.nm i ++ 61 :: ((Rfc.vals f iv c t M D K P).getD i []))).toArray⟩] := by rw [hw3]; exact Blk.alloc _ _ _
  have l3 : Below w2.heap.size w2 w3 := by rw [hw3]; exact (Below.refl _ _).alloc (Nat.le_refl _) _
  clear hw3
  replace Br := Br.below l3 Br.lt
  replace hO := hO.below l3
  replace hb := hb.trans (l3.mono hb.size)
  have hbs3 : base ≤ w3.heap.size := Nat.le_trans hbs2 l3.size
  obtain ⟨v', w4, hr, hO4, b4, z4⟩ := append_str (c := 1) hO (q3.cell 0) (by have := Rfc.parts_le ((Rfc.vals f iv c t M D K P).take i) 0; rw [List.length_take] at this; omega) hbs3
  rw [← eN] at hO4
  obtain ⟨A', cap', rfl⟩ := hO4.form
  refine opL 6 26 (v := .slice A' (Rfc.parts 0 ((Rfc.vals f iv c t M D K P).take (i + 1))).length cap') (w' := w4) (by kernel_rfl) (frZ hs) ?_ ?_
  · exact frY rfl (k_append rfl rfl (ev_tmp h20) (ev_tmp h25) hr)
  refine frN9 hs hd h1 h3 h10 h11 h12 h4 h5 h6 h19 ?_; clear hs hd h1 h3 h10 h11 h12 h4 h5 h6 h19 h20 h25; intro a hs hd h1 h3 h10 h11 h12 h4 h5 h6 h19 h26
  have Br4 := Br.below b4 bs.1
  have hb4 := hb.trans (b4.mono (by omega))
  refine opL 7 3 (v := .slice A' (Rfc.parts 0 ((Rfc.vals f iv c t M D K P).take (i + 1))).length cap') (w' := w4) (by kernel_rfl) (frZ hs) ?_ ?_
  · exact frY rfl (k_assign rfl (ev_tmp h26))
  refine frN8 hs hd h1 h10 h11 h12 h4 h5 h6 h19 ?_; clear hs hd h1 h10 h11 h12 h4 h5 h6 h19 h3 h26; intro a hs hd h1 h10 h11 h12 h4 h5 h6 h19 h3
  refine wp_region (show wpOps _ _ _ [0, 1] _ _ from ?_)
  refine opL 0 27 (v := .int .i64 (i + 1 : Nat)) (w' := w4) (by kernel_rfl) (frZ hs) ?_ ?_
  · exact frY rfl (o_addI rfl (ev_tmp h11) rfl (wrap_small (n := (i : Int) + 1) (by omega) (by omega)))
  revert hs hd h1 h10 h11 h12 h4 h5 h6 h19 h3; refine frM9 ?_; intro a hs hd h1 h10 h11 h12 h4 h5 h6 h19 h3 h27
  refine opL 1 11 (v := .int .i64 (i + 1 : Nat)) (w' := w4) (by kernel_rfl) (frZ hs) ?_ ?_
  · exact frY rfl (k_move rfl (ev_tmp h27))
  clear h11 h27; revert hs hd h1 h10 h12 h4 h5 h6 h19 h3; refine frM8 ?_; intro a hs hd h1 h10 h12 h4 h5 h6 h19 h3 h11
  refine ⟨⟨i + 1, A', cap', hd, hs, h1, h3, h10, h11, hlt, hO4, Br4, ⟨bs.1, by omega, bs.2.2⟩, hb4⟩, ?_⟩
  rw [h11]
  simp only [intOf]
  omega

theorem check_any'' (f iv c u : Int) (AM AD AW AP : Option Addr) (cM cD cW cP : Nat) (M D : List Int) (W : List (Int × Int)) (P : List Int) (w : World) (hL : ListsIn w AM AD AW AP M D W P) :
    Calls Tryz.prog 27 #[.agg #[.int .i64 f, .int .i64 iv, .int .i64 c, .int .i64 u, .slice AM M.length cM, .slice AD D.length cD, .slice AW W.length cW, .slice AP P.length cP]] w fun e w' => ∃ v, e = .returned v ∧ v = .int .i64 (Rul.check f iv c u M D W P) ∧ Below w.heap.size w w' :=
  (check_any f iv c u AM AD AW AP cM cD cW cP M D W P w hL).mono fun _ _ h => ⟨_, h.1, rfl, h.2⟩
set_option maxRecDepth 100000 in
set_option maxHeartbeats 1000000 in
theorem print_any (f iv c u : Int) (t : List UInt8) (AM AD AW AP : Option Addr) (cM cD cW cP : Nat) (M D : List Int) (K : List (Int × Int)) (P : List Int) (w : World) (hT : Tabs w) (hL : ListsIn w AM AD AW AP M D K P) (hok : Okay f iv c u t M D K P) (hck : Rul.check f iv c u M D K P = 0) :
    Calls Tryz.prog 10 #[.agg #[.int .i64 f, .int .i64 iv, .int .i64 c, .int .i64 u, .slice AM M.length cM, .slice AD D.length cD, .slice AW K.length cW, .slice AP P.length cP]] w fun e w' => ∃ v, e = .returned v ∧ v = .string ⟨(Rfc.text f iv c t M D K P).toArray⟩ ∧ Below w.heap.size w w' := by
  refine calls_of_wp Tryz.func10 (show Tryz.f10.body = some prBody from rfl) ?_
  generalize hAA : (Act.mk (#[.agg #[.int .i64 f, .int .i64 iv, .int .i64 c, .int .i64 u, .slice AM M.length cM, .slice AD D.length cD, .slice AW K.length cW, .slice AP P.length cP]] ++ Array.replicate (Tryz.f10.ntmps - (#[.agg #[.int .i64 f, .int .i64 iv, .int .i64 c, .int .i64 u, .slice AM M.length cM, .slice AD D.length cD, .slice AW K.length cW, .slice AP P.length cP]] : Array Value).size) undef) []) = a
  have hs : a.tmps.size = 30 := by rw [← hAA]; simp [Tryz.ntmps10]
  have hd : a.defers = [] := by rw [← hAA]
  have h0 : a.tmps.getD 0 undef = .agg #[.int .i64 f, .int .i64 iv, .int .i64 c, .int .i64 u, .slice AM M.length cM, .slice AD D.length cD, .slice AW K.length cW, .slice AP P.length cP] := by rw [← hAA]; simp
  clear hAA
  refine Code.wp_mono NoPanic.imp ?_
  have hQ : Blind (NoPanic (bodyPost Tryz.prog Tryz.f10 fun e w' => ∃ v, e = .returned v ∧ v = .string ⟨(Rfc.text f iv c t M D K P).toArray⟩ ∧ Below w.heap.size w w')) := fun _ _ _ _ q => q.elim
  have hfin : ∀ (a' : Act) (w' : World), a'.defers = [] → a'.tmps.getD 2 undef = .string ⟨(Rfc.text f iv c t M D K P).toArray⟩ → Below w.heap.size w w' → NoPanic (bodyPost Tryz.prog Tryz.f10 fun e w' => ∃ v, e = .returned v ∧ v = .string ⟨(Rfc.text f iv c t M D K P).toArray⟩ ∧ Below w.heap.size w w') .ret a' w' := by
    intro a' w' k1 k2 k3
    exact ⟨k1, _, results_tmp rfl _ _ _, _, rfl, k2, k3⟩
  generalize NoPanic (bodyPost Tryz.prog Tryz.f10 fun e w' => ∃ v, e = .returned v ∧ v = .string ⟨(Rfc.text f iv c t M D K P).toArray⟩ ∧ Below w.heap.size w w') = Q at hQ hfin
  unfold prBody
  conv => arg 2; whnf
  refine wp_seq ?_
  refine wp_region (show wpOps _ _ _ [0, 1] _ _ from ?_)
  refine opL 0 1 (v := .pointer (some ⟨w.heap.size, 0, none⟩)) (w' := (w.alloc (.cells #[.int .i64 f, .int .i64 iv, .int .i64 c, .int .i64 u, .slice AM M.length cM, .slice AD D.length cD, .slice AW K.length cW, .slice AP P.length cP] 36))) (by kernel_rfl) (frZ hs) ?_ ?_
  · exact frY rfl (k_boxR3 rfl (ev_tmp h0))
  refine frN0 hs hd ?_; clear hs hd h0; intro a hs hd h1
  obtain ⟨w1, hw1⟩ : ∃ wn, wn = w.alloc (.cells #[.int .i64 f, .int .i64 iv, .int .i64 c, .int .i64 u, .slice AM M.length cM, .slice AD D.length cD, .slice AW K.length cW, .slice AP P.length cP] 36) := ⟨_, rfl⟩
  rw [← hw1]
  have q1 : Blk w1 w.heap.size 36 #[.int .i64 f, .int .i64 iv, .int .i64 c, .int .i64 u, .slice AM M.length cM, .slice AD D.length cD, .slice AW K.length cW, .slice AP P.length cP] := by rw [hw1]; exact Blk.alloc _ _ _
  have l1 : Below w.heap.size w w1 := by rw [hw1]; exact (Below.refl _ _).alloc (Nat.le_refl _) _
  clear hw1
  have hT1 := hT.below l1
  have hL1 := hL.below l1
  refine opL 1 2 (v := .string ⟨#[]⟩) (w' := w1) (by kernel_rfl) (frZ hs) ?_ ?_
  · exact frY rfl (k_assign rfl rfl)
  refine frN1 hs hd h1 ?_; clear hs hd h1; intro a hs hd h1 h2
  refine wp_seq ?_
  refine wp_seq ?_
  refine wp_region (show wpOps _ _ _ [0, 1, 2] _ _ from ?_)
  refine opL 0 7 (v := .agg #[.int .i64 f, .int .i64 iv, .int .i64 c, .int .i64 u, .slice AM M.length cM, .slice AD D.length cD, .slice AW K.length cW, .slice AP P.length cP]) (w' := w1) (by kernel_rfl) (frZ hs) ?_ ?_
  · exact frY rfl (k_loadR rfl (ev_tmp h1) q1.rule)
  revert hs hd h1 h2; refine frM2 ?_; intro a hs hd h1 h2 h7
  have hc := check_any'' f iv c u AM AD AW AP cM cD cW cP M D K P w1 hL1
  have hx := fun ops Q rest d a i h1 h2 h3 => opL_call (P := Tryz.prog) (ops := ops) (Q := Q) (a := a) (w := w1) (rest := rest) i d h1 h2 h3 hc
  refine hx _ _ _ 8 _ 1 ?z361a ?z361b ?z361 ?z362
  case z361a => kernel_rfl
  case z361b => (rw [hs]; decide)
  case z361 => exact frY rfl (k_callCheck rfl rfl (ev_tmp h7))
  case z362 =>
  rintro _ w2 a ⟨rfl, l2⟩ F0
  rw [hck] at F0
  replace hs := F0.z.trans hs
  replace hd := F0.e.trans hd
  replace h1 := (F0.n 1 (by decide)).trans h1
  replace h2 := (F0.n 2 (by decide)).trans h2
  clear h7
  have h8 := F0.s
  clear F0
  clear hx hc
  have Br := q1.below l2 q1.lt
  have b2 := l1.trans (l2.mono l1.size)
  refine opL 2 9 (v := .bool false) (w' := w2) (by kernel_rfl) (frZ hs) ?_ ?_
  · exact frY rfl (o_neE rfl (ev_tmp h8) rfl rfl)
  refine frN2 hs hd h1 h2 ?_; clear hs hd h1 h2 h8; intro a hs hd h1 h2 h9
  refine wp_cond_false (ev_tmp h9) ?_
  refine wp_skip ?_
  refine wp_seq ?_
  refine wp_region (show wpOps _ _ _ [0] _ _ from ?_)
  refine opL 0 3 (v := .slice none 0 0) (w' := w2) (by kernel_rfl) (frZ hs) ?_ ?_
  · exact frY rfl (k_assign rfl rfl)
  revert hs hd h1 h2 h9; refine frM3 ?_; intro a hs hd h1 h2 h9 h3
  refine wp_seq ?_
  refine wp_seq ?_
  refine wp_region (show wpOps _ _ _ [0, 1] _ _ from ?_)
  refine opL 0 10 (v := .agg #[.string ⟨(Rfc.nm 0).toArray⟩, .string ⟨(Rfc.nm 1).toArray⟩, .string ⟨(Rfc.nm 2).toArray⟩, .string ⟨(Rfc.nm 3).toArray⟩, .string ⟨(Rfc.nm 4).toArray⟩, .string ⟨(Rfc.nm 5).toArray⟩, .string ⟨(Rfc.nm 6).toArray⟩, .string ⟨(Rfc.nm 7).toArray⟩]) (w' := w2) (by kernel_rfl) (frZ hs) ?_ ?_
  · exact frY rfl (k_loadPN rfl rfl (hT.below b2))
  revert hs hd h1 h2 h9 h3; refine frM4 ?_; intro a hs hd h1 h2 h9 h3 h10
  refine opL 1 11 (v := .int .i64 0) (w' := w2) (by kernel_rfl) (frZ hs) ?_ ?_
  · exact frY rfl (k_move rfl rfl)
  revert hs hd h1 h2 h9 h3 h10; refine frM5 ?_; intro a hs hd h1 h2 h9 h3 h10 h11
  refine wp_block ?_
  refine wp_loop (fun a wx => ∃ i A cap, LpR w w.heap.size w2.heap.size f iv c u t AM AD AW AP cM cD cW cP M D K P i A cap a wx) (fun a _ => (8 - intOf (a.tmps.getD 11 undef)).toNat) ⟨0, none, 0, ⟨hd, hs, h1, h3, h10, h11, Nat.zero_le _, OwnS.nil _ _, Br, ⟨Br.lt, Nat.le_refl _, Nat.le_refl _⟩, b2⟩⟩ ?_
  clear hs hd q1 l1 l2 Br b2 hT1 hL1 h1 h2 h3 h9 h10 h11 a
  rintro a wx ⟨i, A, cap, J⟩
  by_cases hlt : i < 8
  · cases hxe : (((Rfc.vals f iv c t M D K P).getD i []) == [])
    · exact pr_some w _ _ f iv c u t AM AD AW AP cM cD cW cP M D K P hT hL hok i A cap a wx _ J hlt hxe
    · exact pr_none w _ _ f iv c u t AM AD AW AP cM cD cW cP M D K P hT hL hok i A cap a wx _ J hlt hxe
  obtain ⟨hd, hs, h1, h3, h10, h11, hi, hO, Br, bs, hb⟩ := J
  obtain rfl : i = 8 := by omega
  have eA : Rfc.parts 0 ((Rfc.vals f iv c t M D K P).take 8) = (Rfc.parts 0 (Rfc.vals f iv c t M D K P)) := rfl
  rw [eA] at h3 hO
  clear h1 h10 eA
  refine wp_seq ?_
  refine wp_region (show wpOps _ _ _ [0] _ _ from ?_)
  refine opL 0 12 (v := .bool false) (w' := wx) (by kernel_rfl) (frZ hs) ?_ ?_
  · exact frY rfl (o_ltI rfl (ev_tmp h11) rfl (decide_eq_false (by decide)))
  refine frN2 hs hd h3 h11 ?_; clear hs hd h3 h11; intro a hs hd h3 h11 h12
  refine wp_seq ?_
  refine wp_cond_false (ev_tmp h12) ?_
  refine wp_exit ?_
  change Code.wp _ _ _ _ _
  have hne : (Rfc.parts 0 (Rfc.vals f iv c t M D K P)) ≠ [] := fun e => by unfold Rfc.vals Rfc.parts at e; rw [if_neg (Rfc.fq_ne _)] at e; cases e
  obtain ⟨g, rfl, hg, hcap, hcell⟩ := hO.some hne
  refine wp_seq ?_
  refine wp_region (show wpOps _ _ _ [0, 1, 2] _ _ from ?_)
  refine opL 0 28 (v := .slice (some ⟨g, 0, none⟩) (Rfc.parts 0 (Rfc.vals f iv c t M D K P)).length cap) (w' := wx) (by kernel_rfl) (frZ hs) ?_ ?_
  · exact frY rfl (k_move rfl (ev_tmp h3))
  refine frN3 hs hd h3 h11 h12 ?_; clear hs hd h3 h11 h12; intro a hs hd h3 h11 h12 h28
  have hc := join_any g cap (Rfc.parts 0 (Rfc.vals f iv c t M D K P)) 59 wx hg hcap (Nat.le_trans (Rfc.parts_le _ 0) (by show 8 ≤ _; omega)) (fun x hx' => Nat.le_trans (Rfc.parts_mem _ 0 (vals_len hok) x hx') (by omega)) hcell
  have hx := fun ops Q rest d a i h1 h2 h3 => opL_call (P := Tryz.prog) (ops := ops) (Q := Q) (a := a) (w := wx) (rest := rest) i d h1 h2 h3 hc
  refine hx _ _ _ 29 _ 1 ?z375a ?z375b ?z375 ?z376
  case z375a => kernel_rfl
  case z375b => (rw [hs]; decide)
  case z375 => exact frY rfl (c_Join rfl rfl (ev_tmp h28) rfl)
  case z376 =>
  rintro _ w9 a ⟨rfl, l9⟩ F0
  replace hs := F0.z.trans hs
  replace hd := F0.e.trans hd
  replace h3 := (F0.n 3 (by decide)).trans h3
  replace h11 := (F0.n 11 (by decide)).trans h11
  replace h12 := (F0.n 12 (by decide)).trans h12
  clear h28
  have h29 := F0.s
  clear F0
  clear hx hc
  refine opL 2 2 (v := .string ⟨(Rfc.text f iv c t M D K P).toArray⟩) (w' := w9) (by kernel_rfl) (frZ hs) ?_ ?_
  · exact frY rfl (k_assign rfl (ev_tmp h29))
  refine frN3 hs hd h3 h11 h12 ?_; clear hs hd h3 h11 h12 h29; intro a hs hd h3 h11 h12 h2
  refine wp_ret ?_
  exact hfin a _ hd h2 (hb.trans (l9.mono hb.size))

end Go.Proofs.YtocpmljkmdpfkaaGreatDoor
