/-
  Numbers, weekdays and lists of them as texts.
-/
import Derived.Test.YtocpmljkmdpfkaaGreatDoorRf0
import Derived.Test.YtocpmljkmdpfkaaGreatDoorShelf
import Derived.Lib.ItoaLen
import Derived.Laws.MakeOwn
namespace Go.Proofs.YtocpmljkmdpfkaaGreatDoor
open Go.RowKit
theorem ba_append (a b : List UInt8) : (⟨a.toArray⟩ : ByteArray) ++ ⟨b.toArray⟩ = ⟨(a ++ b).toArray⟩ := by
  apply ByteArray.ext
  show (ByteArray.append ⟨a.toArray⟩ ⟨b.toArray⟩).data = _
  simp
theorem itoa_any (n : Int) (w : World) (hT : Tabs w) (h0 : -9223372036854775808 ≤ n ∧ n ≤ 9223372036854775807) : Calls Tryz.prog 34 #[.int .i64 n] w fun e w' => ∃ v, e = .returned v ∧ v = .string ⟨(Lib.itoa n).toArray⟩ ∧ Below w.heap.size w w' :=
  (Tryz.strconv_Itoa n h0.1 h0.2 w hT.pow).mono fun e w' ⟨he, k, os, hw⟩ => ⟨_, he, rfl, by rw [hw]; exact below_grow⟩
theorem unless_any (n z : Int) (w : World) (hT : Tabs w) (h0 : -9223372036854775808 ≤ n ∧ n ≤ 9223372036854775807) : Calls Tryz.prog 56 #[.int .i64 n, .int .i64 z] w fun e w' => ∃ v, e = .returned v ∧ v = .string ⟨(Rfc.num n z).toArray⟩ ∧ Below w.heap.size w w' := by
  by_cases h : n = z
  · subst h
    have E := Lib.hid (show Rfc.num n n = [] by simp [Rfc.num])
    clear h0 hT
    go_enter Tryz.func56, Tryz.ntmps56
    go_wp2
    go_ret
    exact ⟨_, rfl, by rw [E.out]; rfl, Below.refl _ _⟩
  · have h' : (n == z) = false := by simpa using h
    have E := Lib.hid (show Rfc.num n z = Lib.itoa n by simp [Rfc.num, h])
    have hc := itoa_any n w hT h0
    clear h h0 hT
    go_enter Tryz.func56, Tryz.ntmps56
    go_wp2_with fail
    refine hc.mono ?_
    rintro e w' ⟨v, rfl, rfl, b⟩
    go_wp2
    go_ret
    exact ⟨_, rfl, by rw [E.out]; rfl, b⟩
theorem num_len (n z : Int) (h0 : -9223372036854775808 ≤ n ∧ n ≤ 9223372036854775807) : (Rfc.num n z).length ≤ 21 := by
  unfold Rfc.num
  split
  · simp
  · exact Lib.itoa_length_le n h0.1 h0.2
theorem day_len (x : Int × Int) (h0 : -9223372036854775808 ≤ x.1 ∧ x.1 ≤ 9223372036854775807) : (Rfc.day x).length ≤ 23 := by
  unfold Rfc.day
  rw [List.length_append, Rfc.wd_len]
  have := num_len x.1 0 h0
  omega
theorem join_len (c : UInt8) (B : Nat) : ∀ (xs : List (List UInt8)), (∀ x ∈ xs, x.length ≤ B) → (Lib.join xs [c]).length ≤ xs.length * (B + 1)
  | [], _ => by simp [Lib.join_nil]
  | [x], h => by rw [Lib.join_one]; have := h x (by simp); simp; omega
  | x :: y :: r, h => by
    rw [Rfc.join_more]
    have h1 := h x (by simp)
    have h2 := join_len c B (y :: r) (fun z hz => h z (List.mem_cons_of_mem _ hz))
    simp only [List.length_append, List.length_cons] at h2 ⊢
    rw [Nat.add_mul]
    omega
section
variable {w : World} {ρ : Operand → Value} {o : Oper} {x y : Operand} {b i n k c : Nat} {m p : Int} {ad : Addr} {v u : Value}
theorem c_Unless (ho : o.op = .call ⟨.value (.func 56), #[x, y], #[3, 3]⟩) (hf : ρ (.func 56) = .func (.func 56) #[] #[]) (hx : ρ x = v) (hy : ρ y = u) : (execOp ρ o).run Tryz.prog w = .ok (.enter 56 #[v, u]) w := by
  simp only [execOp, ho]
  go_simp
theorem c_Join (ho : o.op = .call ⟨.value (.func 16), #[x, y], #[45, 9]⟩) (hf : ρ (.func 16) = .func (.func 16) #[] #[]) (hx : ρ x = v) (hy : ρ y = u) : (execOp ρ o).run Tryz.prog w = .ok (.enter 16 #[v, u]) w := by
  simp only [execOp, ho]
  go_simp
theorem c_valItoa (ho : o.op = .call ⟨.value x, #[y], #[3]⟩) (hf : ρ x = .func (.func 34) #[] #[]) (hy : ρ y = u) : (execOp ρ o).run Tryz.prog w = .ok (.enter 34 #[u]) w := by
  simp only [execOp, ho]
  go_simp
theorem c_valDay (ho : o.op = .call ⟨.value x, #[y], #[55]⟩) (hf : ρ x = .func (.func 61) #[] #[]) (hy : ρ y = u) : (execOp ρ o).run Tryz.prog w = .ok (.enter 61 #[u]) w := by
  simp only [execOp, ho]
  go_simp
theorem k_makeStr (ho : o.op = .makeSlice 45 x x) (hx : ρ x = .int .i64 n) (hn : n ≤ 1000) : (execOp ρ o).run Tryz.prog w = .ok (.value (.slice (some ⟨w.heap.size, 0, none⟩) n n)) (w.alloc (.cells (Array.replicate n (.string ⟨#[]⟩)) 9)) := by
  obtain ⟨i, hi, hz, hsz, hb⟩ := info_of (T := 9) (z := .string ⟨#[]⟩) (n := 1) (b := 16) (by kernel_rfl) (by kernel_rfl) (by kernel_rfl)
  have hr := run_makeSlice (P := Tryz.prog) w 45 9 i (.string ⟨#[]⟩) Tryz.underlying45 hi hz .i64 .i64 n n (by omega) (by omega) (by rw [hsz]; omega) (by rw [hb]; omega) (by omega)
  have e : madeCells (Value.string ⟨#[]⟩).cells ((n : Int).toNat * i.size) = Array.replicate n (.string ⟨#[]⟩) := by
    rw [hsz, Int.toNat_natCast, Nat.mul_one]
    apply Array.ext
    · simp [madeCells]
    · intro j h1 h2
      simp [madeCells, Value.cells, Nat.mod_one]
  rw [e, Int.toNat_natCast] at hr
  simp only [execOp, ho, hx, Sem.run_bind, hr, Result.andThen_ok, Sem.run_pure]
theorem k_atI (ho : o.op = .indexAddr 33 x y) (hx : ρ x = .slice (some ad) k c) (hy : ρ y = .int .i64 i) (hi : i < k) : (execOp ρ o).run Tryz.prog w = .ok (.value (.pointer (some (ad.add i)))) w := by
  simp only [execOp, ho]
  go_simp
theorem k_atN (ho : o.op = .indexAddr 34 x y) (hx : ρ x = .slice (some ad) k c) (hy : ρ y = .int .i64 i) (hi : i < k) : (execOp ρ o).run Tryz.prog w = .ok (.value (.pointer (some (ad.add (i * 2))))) w := by
  simp only [execOp, ho]
  go_simp
theorem k_atS' (ho : o.op = .indexAddr 45 x y) (hx : ρ x = .slice (some ⟨b, 0, none⟩) k c) (hy : ρ y = .int .i64 i) (hi : i < k) : (execOp ρ o).run Tryz.prog w = .ok (.value (.pointer (some ⟨b, i, none⟩))) w := by
  simp only [execOp, ho]
  go_simp
theorem k_loadN2 (ho : o.op = .load 55 x) (hx : ρ x = .pointer (some ad)) (h0 : w.cell? ad = some (.int .i64 m)) (h1 : w.cell? (ad.add 1) = some (.int .i64 p)) : (execOp ρ o).run Tryz.prog w = .ok (.value (.agg #[.int .i64 m, .int .i64 p])) w := by
  have h1' : w.cell? ⟨ad.block, ad.off + 1, none⟩ = some (.int .i64 p) := by simpa [Addr.add] using h1
  simp only [execOp, ho, hx]
  go_simp
theorem k_storeStr {t : TypeId} {cs : Array Value} {s : ByteArray} (ho : o.op = .store 9 x y) (hx : ρ x = .pointer (some ⟨b, i, none⟩)) (hy : ρ y = .string s) (hb : Blk w b t cs) (hi : i < cs.size) :
    (execOp ρ o).run Tryz.prog w = .ok .skip (w.setCell ⟨b, i, none⟩ (.string s)) := by
  have hc := hb.cell i
  have hf := hb.frozen i
  rw [Array.getElem?_eq_getElem hi] at hc
  simp only [execOp, ho, hx, hy]
  go_simp
theorem k_boxN3 {cs : Array Value} (ho : o.op = .box 55 x) (hx : ρ x = .agg cs) : (execOp ρ o).run Tryz.prog w = .ok (.value (.pointer (some ⟨w.heap.size, 0, none⟩))) (w.alloc (.cells cs 55)) := by
  simp only [execOp, ho, hx]
  go_simp
end

noncomputable def wdayBody : Code := Tryz.f61.body.getD .skip
set_option maxRecDepth 100000 in
set_option maxHeartbeats 1000000 in
theorem wday_any (n d : Int) (w : World) (hT : Tabs w) (hn : -9223372036854775808 ≤ n ∧ n ≤ 9223372036854775807) (hd0 : 0 ≤ d ∧ d ≤ 6) :
    Calls Tryz.prog 61 #[.agg #[.int .i64 n, .int .i64 d]] w fun e w' => ∃ v, e = .returned v ∧ v = .string ⟨(Rfc.day (n, d)).toArray⟩ ∧ Below w.heap.size w w' := by
  have hsz : (⟨(Rfc.num n 0).toArray⟩ : ByteArray).size + (⟨(Rfc.wd d.toNat).toArray⟩ : ByteArray).size ≤ 1000000 := by
    have h1 := num_len n 0 hn
    have h2 := Rfc.wd_len d.toNat
    have e : ∀ l : List UInt8, (⟨l.toArray⟩ : ByteArray).size = l.length := fun l => by show l.toArray.size = _; simp
    rw [e, e]
    omega
  refine calls_of_wp Tryz.func61 (show Tryz.f61.body = some wdayBody from rfl) ?_
  generalize hAA : (Act.mk (#[.agg #[.int .i64 n, .int .i64 d]] ++ Array.replicate (Tryz.f61.ntmps - (#[.agg #[.int .i64 n, .int .i64 d]] : Array Value).size) undef) []) = a
  have hs : a.tmps.size = 11 := by rw [← hAA]; simp [Tryz.ntmps61]
  have hd : a.defers = [] := by rw [← hAA]
  have h0 : a.tmps.getD 0 undef = .agg #[.int .i64 n, .int .i64 d] := by rw [← hAA]; simp
  clear hAA
  refine Code.wp_mono NoPanic.imp ?_
  have hQ : Blind (NoPanic (bodyPost Tryz.prog Tryz.f61 fun e w' => ∃ v, e = .returned v ∧ v = .string ⟨(Rfc.day (n, d)).toArray⟩ ∧ Below w.heap.size w w')) := fun _ _ _ _ q => q.elim
  have hfin : ∀ (a' : Act) (w' : World), a'.defers = [] → a'.tmps.getD 2 undef = .string ⟨(Rfc.day (n, d)).toArray⟩ → Below w.heap.size w w' → NoPanic (bodyPost Tryz.prog Tryz.f61 fun e w' => ∃ v, e = .returned v ∧ v = .string ⟨(Rfc.day (n, d)).toArray⟩ ∧ Below w.heap.size w w') .ret a' w' := by
    intro a' w' k1 k2 k3
    exact ⟨k1, _, results_tmp rfl _ _ _, _, rfl, k2, k3⟩
  generalize NoPanic (bodyPost Tryz.prog Tryz.f61 fun e w' => ∃ v, e = .returned v ∧ v = .string ⟨(Rfc.day (n, d)).toArray⟩ ∧ Below w.heap.size w w') = Q at hQ hfin
  unfold wdayBody
  conv => arg 2; whnf
  refine wp_seq ?_
  refine wp_region (show wpOps _ _ _ [0, 1] _ _ from ?_)
  refine opL 0 1 (v := .pointer (some ⟨w.heap.size, 0, none⟩)) (w' := (w.alloc (.cells #[.int .i64 n, .int .i64 d] 55))) (by kernel_rfl) (frZ hs) ?_ ?_
  · exact frY rfl (k_boxN3 rfl (ev_tmp h0))
  refine frN0 hs hd ?_; clear hs hd h0; intro a hs hd h1
  obtain ⟨w1, hw1⟩ : ∃ wn, wn = w.alloc (.cells #[.int .i64 n, .int .i64 d] 55) := ⟨_, rfl⟩
  rw [← hw1]
  have hT1 : Tabs w1 := by rw [hw1]; exact hT.below ((Below.refl _ _).alloc (Nat.le_refl _) _)
  have q1 : Blk w1 w.heap.size 55 #[.int .i64 n, .int .i64 d] := by rw [hw1]; exact Blk.alloc _ _ _
  have l1 : Below w.heap.size w w1 := by rw [hw1]; exact (Below.refl _ _).alloc (Nat.le_refl _) _
  clear hw1
  refine opL 1 2 (v := .string ⟨#[]⟩) (w' := w1) (by kernel_rfl) (frZ hs) ?_ ?_
  · exact frY rfl (k_assign rfl rfl)
  refine frN1 hs hd h1 ?_; clear hs hd h1; intro a hs hd h1 h2
  refine wp_seq ?_
  refine wp_region_held_drew (S := fun w' => Below w1.heap.size w1 w') (by kernel_rfl) (below_drew (Below.refl _ _)) (fun hH => ?_)
  obtain ⟨u0, hu⟩ : ∃ u0, u0 = w1.drew := ⟨_, rfl⟩
  rw [← hu] at hH ⊢
  clear hu
  refine heldL 0 3 (v := .pointer (some ⟨w.heap.size, 0, none⟩)) hQ (by kernel_rfl) (frZ hs) (by kernel_rfl) (by kernel_rfl) (by kernel_rfl) hH ?z5 ?z6
  case z5 => (intro o ho; obtain rfl := Option.some.inj ho; exact Or.inl ⟨rfl, fun w1 h1w => k_fieldNth0 rfl (ev_tmp h1)⟩)
  case z6 =>
  refine frN2 hs hd h1 h2 ?_; clear hs hd h1 h2; intro a hs hd h1 h2 h3
  refine heldL 1 4 (v := .int .i64 n) hQ (by kernel_rfl) (frZ hs) (by kernel_rfl) (by kernel_rfl) (by kernel_rfl) hH ?z7 ?z8
  case z7 => (intro o ho; obtain rfl := Option.some.inj ho; exact Or.inl ⟨rfl, fun w1 h1w => k_loadI rfl (ev_tmp h3) ((q1.below h1w q1.lt).cell 0)⟩)
  case z8 =>
  refine frN3 hs hd h1 h2 h3 ?_; clear hs hd h1 h2 h3; intro a hs hd h1 h2 h3 h4
  refine heldL 3 6 (v := .pointer (some ⟨w.heap.size, 1, none⟩)) hQ (by kernel_rfl) (frZ hs) (by kernel_rfl) (by kernel_rfl) (by kernel_rfl) hH ?z9 ?z10
  case z9 => (intro o ho; obtain rfl := Option.some.inj ho; exact Or.inl ⟨rfl, fun w1 h1w => k_fieldNth1 rfl (ev_tmp h1)⟩)
  case z10 =>
  refine frN4 hs hd h1 h2 h3 h4 ?_; clear hs hd h1 h2 h3 h4; intro a hs hd h1 h2 h3 h4 h6
  refine heldL 4 7 (v := .int .i64 d) hQ (by kernel_rfl) (frZ hs) (by kernel_rfl) (by kernel_rfl) (by kernel_rfl) hH ?z11 ?z12
  case z11 => (intro o ho; obtain rfl := Option.some.inj ho; exact Or.inl ⟨rfl, fun w1 h1w => k_loadI rfl (ev_tmp h6) ((q1.below h1w q1.lt).cell 1)⟩)
  case z12 =>
  refine frN5 hs hd h1 h2 h3 h4 h6 ?_; clear hs hd h1 h2 h3 h4 h6; intro a hs hd h1 h2 h3 h4 h6 h7
  refine heldL 5 8 (v := .pointer (some ⟨4, d.toNat, none⟩)) hQ (by kernel_rfl) (frZ hs) (by kernel_rfl) (by kernel_rfl) (by kernel_rfl) hH ?z13 ?z14
  case z13 => (intro o ho; obtain rfl := Option.some.inj ho; exact Or.inl ⟨rfl, fun w1 h1w => k_wdAt rfl rfl (ev_tmp (h7.trans (by rw [Int.toNat_of_nonneg hd0.1]))) (by omega)⟩)
  case z14 =>
  refine frN6 hs hd h1 h2 h3 h4 h6 h7 ?_; clear hs hd h1 h2 h3 h4 h6 h7; intro a hs hd h1 h2 h3 h4 h6 h7 h8
  refine heldL 6 9 (v := .string ⟨(Rfc.wd d.toNat).toArray⟩) hQ (by kernel_rfl) (frZ hs) (by kernel_rfl) (by kernel_rfl) (by kernel_rfl) hH ?z15 ?z16
  case z15 => (intro o ho; obtain rfl := Option.some.inj ho; exact Or.inl ⟨rfl, fun w1 h1w => k_loadStr rfl (ev_tmp h8) ((hT1.below h1w).wd _ (by omega))⟩)
  case z16 =>
  refine frN7 hs hd h1 h2 h3 h4 h6 h7 h8 ?_; clear hs hd h1 h2 h3 h4 h6 h7 h8; intro a hs hd h1 h2 h3 h4 h6 h7 h8 h9
  have hc := unless_any n 0 u0 (hT1.below hH) hn
  have hx := fun ops Q S fuel listed d a i h0 h1 h2 h3 => heldL_call (P := Tryz.prog) (ops := ops) (Q := Q) (S := S) (fuel := fuel) (listed := listed) (a := a) (w := u0) i d h0 h1 h2 h3 hc
  refine hx _ _ _ _ _ 5 _ 2 ?z17 ?z18 ?z19 ?z20 ?z21 ?z22
  case z17 => kernel_rfl
  case z18 => kernel_rfl
  case z19 => (rw [hs]; decide)
  case z20 => exact frY rfl (c_Unless rfl rfl (ev_tmp h4) rfl)
  case z21 => (rintro _ _ ⟨rfl, l⟩; exact hH.trans (l.mono hH.size))
  case z22 =>
  clear hx hc
  rintro _ u1 a ⟨rfl, l⟩ F0
  replace hs := F0.z.trans hs
  replace hd := F0.e.trans hd
  replace h1 := (F0.n 1 (by decide)).trans h1
  replace h2 := (F0.n 2 (by decide)).trans h2
  replace h3 := (F0.n 3 (by decide)).trans h3
  replace h4 := (F0.n 4 (by decide)).trans h4
  replace h6 := (F0.n 6 (by decide)).trans h6
  replace h7 := (F0.n 7 (by decide)).trans h7
  replace h8 := (F0.n 8 (by decide)).trans h8
  replace h9 := (F0.n 9 (by decide)).trans h9
  have h5 := F0.s
  clear F0
  replace hH := hH.trans (l.mono hH.size)
  clear l
  refine heldL 7 10 (v := .string ⟨(Rfc.day (n, d)).toArray⟩) hQ (by kernel_rfl) (frZ hs) (by kernel_rfl) (by kernel_rfl) (by kernel_rfl) hH ?z23 ?z24
  case z23 => (intro o ho; obtain rfl := Option.some.inj ho; exact Or.inl ⟨rfl, fun w1 h1w => o_addStr rfl (ev_tmp h5) (ev_tmp h9) hsz (ba_append _ _)⟩)
  case z24 =>
  refine frN9 hs hd h1 h2 h3 h4 h6 h7 h8 h9 h5 ?_; clear hs hd h1 h2 h3 h4 h6 h7 h8 h9 h5; intro a hs hd h1 h2 h3 h4 h6 h7 h8 h9 h5 h10
  refine heldL 8 2 (v := .string ⟨(Rfc.day (n, d)).toArray⟩) hQ (by kernel_rfl) (frZ hs) (by kernel_rfl) (by kernel_rfl) (by kernel_rfl) hH ?z25 ?z26
  case z25 => (intro o ho; obtain rfl := Option.some.inj ho; exact Or.inl ⟨rfl, fun w1 h1w => k_assign rfl (ev_tmp h10)⟩)
  case z26 =>
  refine frN9 hs hd h1 h3 h4 h6 h7 h8 h9 h5 h10 ?_; clear hs hd h1 h3 h4 h6 h7 h8 h9 h5 h10 h2; intro a hs hd h1 h3 h4 h6 h7 h8 h9 h5 h10 h2
  refine wpAnyH_done (by kernel_rfl) ?_ _
  refine wp_ret ?_
  exact hfin a _ hd h2 (l1.trans (hH.mono l1.size))
end Go.Proofs.YtocpmljkmdpfkaaGreatDoor
