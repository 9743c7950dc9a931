/-
  What a row of stage 3 lists of the package-level variables gives the walks' Tabs.
-/
import Derived.Test.YtjdjekpbjnkliaaGreatDoorBase
import Derived.Test.YtjdjekpbjnkliaaGreatDoorRf0
import Derived.Test.YtjdjekpbjnkliaaGreatDoorShelf
import Derived.Lib.LaidU8
import Derived.LaidSub
import Derived.MakeChecks
import Derived.Lib.ItoaLen
import Derived.Laws.MakeOwn
namespace Go.Proofs.YtjdjekpbjnkliaaGreatDoor
open Go.ChangeShapes Go.WideShapes Go.ChangeAt Go.RowKit
theorem strs_of_tab {H : Type} {enc : TypeId × Value → H} {P : Program} {w : World} {base : Nat} {sp : Nat → Bool} {held : Bool} {fuel : Nat} {t e : TypeId} {n : Nat} {cs : List Value} {zs : List (List UInt8)} {p : List MemPlace}
    (ht : P.underlying t = some (.array n e)) (he : P.underlying e = some .string) (hce : P.cellsOf e = 1) (hct : P.cellsOf t = n)
    (h : DataW.trod enc P w base sp held fuel t cs = some (.agg (zs.map fun z => .lit (.string z)), p)) : cs = zs.map fun z => Value.string ⟨z.toArray⟩ := by
  cases fuel with
  | zero => simp [DataW.trod] at h
  | succ fuel =>
    simp only [DataW.trod, ht, hce, hct, Nat.mul_one] at h
    split at h
    · rename_i hl
      obtain ⟨xs, hm, hx⟩ := Option.map_eq_some_iff.1 h
      have hxs : xs.map (·.1) = zs.map fun z => (DataW.lit (.string z) : DataW H) := by
        have := congrArg Prod.fst hx
        simpa using this
      have hxl : xs.length = n := by simpa using Lib.mapM_length hm
      have hzl : zs.length = n := by
        have := congrArg List.length hxs
        simp at this
        omega
      apply List.ext_getElem?
      intro i
      by_cases hi : i < n
      · obtain ⟨b, hb, hf⟩ := Lib.mapM_at hm i i (by simp [hi])
        obtain ⟨s, hc, rfl, _⟩ := DataW.trod_string he hf
        have h1 : cs[i]? = some (.string s) := by
          have := congrArg (·[0]?) hc
          simpa [List.getElem?_take, List.getElem?_drop] using this
        have h2 : (xs.map (·.1))[i]? = some (DataW.lit (.string s.data.toList) : DataW H) := by simp [hb]
        rw [hxs] at h2
        simp only [List.getElem?_map, Option.map_eq_some_iff, DataW.lit.injEq, Lit.string.injEq] at h2
        obtain ⟨z', hz', e'⟩ := h2
        subst e'
        simp [h1, hz']
      · rw [List.getElem?_eq_none (by omega), List.getElem?_eq_none (by simp; omega)]
    · cases h
theorem strs_cell {P : Program} {W : World} {n : String} {g t e : Nat} {k : Nat} {zs : List (List UInt8)} (hr : Lib.VarReads P W n (.agg (zs.map fun z => .lit (.string z)))) (hg : P.globalNamed n = some g) (hty : (P.globals[g]?).map (·.type) = some t)
    (ht : P.underlying t = some (.array k e)) (he : P.underlying e = some .string) (hce : P.cellsOf e = 1) (hct : P.cellsOf t = k) (i : Nat) : W.cell? ⟨g, i, none⟩ = (zs[i]?).map fun z => Value.string ⟨z.toArray⟩ := by
  obtain ⟨g', t', cs, fuel, p, h1, h2, h3, h4⟩ := hr
  obtain rfl := Option.some.inj (hg.symm.trans h1)
  obtain rfl := Option.some.inj (hty.symm.trans h2)
  have hc := strs_of_tab ht he hce hct h4
  rw [World.var?_cell hg h3 i, ← Array.getElem?_toList, hc, List.getElem?_map]
theorem tab_reads {P : Program} {W : World} {n : String} {g t e : Nat} {k : Nat} {q : IntKind} {zs : List Int} (hr : Lib.VarReads P W n (Lib.tabData q zs)) (hg : P.globalNamed n = some g) (hty : (P.globals[g]?).map (·.type) = some t)
    (ht : P.underlying t = some (.array k e)) (he : P.underlying e = some (.int q)) (hce : P.cellsOf e = 1) (hct : P.cellsOf t = k) : Lib.TabIs P W n q zs := by
  obtain ⟨g', t', cs, fuel, p, h1, h2, h3, h4⟩ := hr
  obtain rfl := Option.some.inj (hg.symm.trans h1)
  obtain rfl := Option.some.inj (hty.symm.trans h2)
  unfold Lib.TabIs
  rw [h3, ← Lib.cells_of_tab ht he hce hct h4]
theorem err_cell {P : Program} {W : World} {n nm : String} {g t : Nat} {d : DataW Unit} {ms : Array (String × TypeId)} (hr : Lib.VarReads P W n (.iface nm d)) (hg : P.globalNamed n = some g) (hty : (P.globals[g]?).map (·.type) = some t)
    (hi : P.underlying t = some (.interface ms)) : ∃ v, W.cell? ⟨g, 0, none⟩ = some v ∧ (v = .nilIface ∨ ∃ te pe, v = .iface te pe) := by
  obtain ⟨g', t', cs, fuel, p, h1, h2, h3, h4⟩ := hr
  obtain rfl := Option.some.inj (hg.symm.trans h1)
  obtain rfl := Option.some.inj (hty.symm.trans h2)
  obtain ⟨f1, u, v, e, -, -⟩ := iface_of_trod hi h4
  refine ⟨.iface u v, ?_, .inr ⟨u, v, rfl⟩⟩
  rw [World.var?_cell hg h3 0, ← Array.getElem?_toList, e]
  rfl
theorem months_tab {W : World} (t : Lib.TabIs Tryz.prog W "kalends/civil.months" .i64 [31, 28, 31, 30, 31, 30, 31, 31, 30, 31, 30, 31]) : Months W := by
  intro m h1 h2
  have c := t.cell gMonths (m.toNat - 1) (by simp; omega)
  rw [c]
  have hm : m = 1 ∨ m = 2 ∨ m = 3 ∨ m = 4 ∨ m = 5 ∨ m = 6 ∨ m = 7 ∨ m = 8 ∨ m = 9 ∨ m = 10 ∨ m = 11 ∨ m = 12 := by omega
  rcases hm with rfl | rfl | rfl | rfl | rfl | rfl | rfl | rfl | rfl | rfl | rfl | rfl <;> rfl
theorem tabs_of {L : List (String × DataW Unit)} {W : World} (h : laidMet Tryz.prog L W) (hsh : W.ShapedOpen Tryz.prog)
    (m0 : ("kalends/civil.months", Rows.laid_kalends_civil_months) ∈ L) (m1 : ("internal/strconv.uint64pow10", Rows.laid_internal_strconv_uint64pow10) ∈ L)
    (m2 : ("strconv.ErrRange", Rows.laid_strconv_ErrRange) ∈ L) (m3 : ("strconv.ErrSyntax", Rows.laid_strconv_ErrSyntax) ∈ L)
    (m4 : ("kalends/rfc.partNames", Rows.laid_kalends_rfc_partNames) ∈ L) (m5 : ("kalends/rfc.freqNames", Rows.laid_kalends_rfc_freqNames) ∈ L) (m6 : ("kalends/rfc.weekdayNames", Rows.laid_kalends_rfc_weekdayNames) ∈ L) : Tabs W where
  mon := months_tab (tab_reads (Lib.laidMet.reads h m0) gMonths gMonthsType Tryz.underlying185 Tryz.underlying3 cellsInt cellsTable)
  pn i hi := by
    rw [strs_cell (zs := [Rfc.nm 0, Rfc.nm 1, Rfc.nm 2, Rfc.nm 3, Rfc.nm 4, Rfc.nm 5, Rfc.nm 6, Rfc.nm 7]) (t := 91) (Lib.laidMet.reads h m4) (by kernel_rfl) (by kernel_rfl) Tryz.underlying91 Tryz.underlying9 (by kernel_rfl) (by kernel_rfl) i]
    have e : i = 0 ∨ i = 1 ∨ i = 2 ∨ i = 3 ∨ i = 4 ∨ i = 5 ∨ i = 6 ∨ i = 7 := by omega
    rcases e with rfl | rfl | rfl | rfl | rfl | rfl | rfl | rfl <;> rfl
  fq i hi := by
    rw [strs_cell (zs := [Rfc.fq 0, Rfc.fq 1, Rfc.fq 2, Rfc.fq 3]) (t := 123) (Lib.laidMet.reads h m5) (by kernel_rfl) (by kernel_rfl) Tryz.underlying123 Tryz.underlying9 (by kernel_rfl) (by kernel_rfl) i]
    have e : i = 0 ∨ i = 1 ∨ i = 2 ∨ i = 3 := by omega
    rcases e with rfl | rfl | rfl | rfl <;> rfl
  wd i hi := by
    rw [strs_cell (zs := [Rfc.wd 0, Rfc.wd 1, Rfc.wd 2, Rfc.wd 3, Rfc.wd 4, Rfc.wd 5, Rfc.wd 6]) (t := 130) (Lib.laidMet.reads h m6) (by kernel_rfl) (by kernel_rfl) Tryz.underlying130 Tryz.underlying9 (by kernel_rfl) (by kernel_rfl) i]
    have e : i = 0 ∨ i = 1 ∨ i = 2 ∨ i = 3 ∨ i = 4 ∨ i = 5 ∨ i = 6 := by omega
    rcases e with rfl | rfl | rfl | rfl | rfl | rfl | rfl <;> rfl
  pow := tab_reads (g := 11) (t := 202) (Lib.laidMet.reads h m1) (by kernel_rfl) (by kernel_rfl) Tryz.underlying202 Tryz.underlying140 (by kernel_rfl) (by kernel_rfl)
  max := Go.Proofs.cell_of_shapedOpen_int (zero := #[.int .i64 0]) (t := 3) hsh (of_decide_eq_true (by kernel_rfl)) (by kernel_rfl) rfl (by kernel_rfl) (by kernel_rfl) Tryz.underlying3
  eS := err_cell (t := 87) (Lib.laidMet.reads h m3) (by kernel_rfl) (by kernel_rfl) Tryz.underlying87
  eR := err_cell (t := 87) (Lib.laidMet.reads h m2) (by kernel_rfl) (by kernel_rfl) Tryz.underlying87
end Go.Proofs.YtjdjekpbjnkliaaGreatDoor
namespace Go.Proofs.YtjdjekpbjnkliaaGreatDoor
open Go.RowKit
def AllK (a : Act) : List (Nat × Value) → Prop
  | [] => True
  | (t, v) :: L => a.tmps.getD t undef = v ∧ AllK a L
structure Know (N : Nat) (df : List Deferred) (a : Act) (L : List (Nat × Value)) : Prop where
  z : a.tmps.size = N
  d : a.defers = df
  k : AllK a L
def lk (t : Nat) : List (Nat × Value) → Option Value
  | [] => none
  | (u, v) :: L => bif Nat.beq t u then some v else lk t L
def fresh (t : Nat) : List (Nat × Value) → Bool
  | [] => true
  | (u, _) :: L => bif Nat.beq u t then false else fresh t L
def pickL : List Nat → List (Nat × Value) → Option (List (Nat × Value))
  | [], _ => some []
  | t :: ts, L => match lk t L, pickL ts L with
    | some v, some M => some ((t, v) :: M)
    | _, _ => none
section
variable {N : Nat} {df : List Deferred} {a : Act} {L : List (Nat × Value)} {v : Value}
theorem AllK.g : ∀ {L : List (Nat × Value)} {t : Nat}, AllK a L → lk t L = some v → a.tmps.getD t undef = v
  | [], _, _, e => by cases e
  | (u, x) :: L, t, h, e => by
    unfold lk at e
    cases hb : Nat.beq t u with
    | true =>
      rw [hb] at e
      obtain rfl : x = v := Option.some.inj e
      rw [Nat.eq_of_beq_eq_true hb]
      exact h.1
    | false =>
      rw [hb] at e
      exact AllK.g h.2 e
theorem Know.g (h : Know N df a L) (t : Nat) (e : lk t L = some v) : a.tmps.getD t undef = v := h.k.g e
theorem Know.e (h : Know N df a L) (t : Nat) (e : lk t L = some v) : a.eval (.tmp t) = v := ev_tmp (h.g t e)
theorem Know.p (h : Know N df a L) {t : Nat} (e : a.tmps.getD t undef = v) : Know N df a ((t, v) :: L) := ⟨h.z, h.d, e, h.k⟩
theorem kn (hs : a.tmps.size = N) (hd : a.defers = df) : Know N df a [] := ⟨hs, hd, trivial⟩
theorem AllK.pick : ∀ {ts : List Nat} {M : List (Nat × Value)}, AllK a L → pickL ts L = some M → AllK a M
  | [], M, _, e => by obtain rfl := Option.some.inj e; exact trivial
  | t :: ts, M, h, e => by
    unfold pickL at e
    split at e
    · rename_i v M' e1 e2
      obtain rfl := Option.some.inj e
      exact ⟨h.g e1, AllK.pick h e2⟩
    · cases e
theorem Know.keep (h : Know N df a L) (ts : List Nat) {M : List (Nat × Value)} (e : pickL ts L = some M) : Know N df a M := ⟨h.z, h.d, h.k.pick e⟩
theorem AllK.fr {b : Act} {d : Nat} (F : Fr d v a b) : ∀ {L : List (Nat × Value)}, AllK a L → fresh d L = true → AllK b L
  | [], _, _ => trivial
  | (u, x) :: L, h, e => by
    unfold fresh at e
    cases hb : Nat.beq u d with
    | true => rw [hb] at e; cases e
    | false =>
      rw [hb] at e
      exact ⟨(F.n u (fun e' => by rw [e', Nat.beq_refl] at hb; cases hb)).trans h.1, AllK.fr F h.2 e⟩
theorem Know.fr {b : Act} {d : Nat} (F : Fr d v a b) (h : Know N df a L) (e : fresh d L = true) : Know N df b ((d, v) :: L) := ⟨F.z.trans h.z, F.e.trans h.d, F.s, h.k.fr F e⟩
end
section
variable {P : Program} {ops : Array Oper} {Q : Exit → Act → World → Prop} {a : Act} {w w' : World} {v : Value} {N : Nat} {df : List Deferred} {L : List (Nat × Value)}
def upto : Nat → Nat → List Nat
  | _, 0 => []
  | i, n + 1 => i :: upto (i + 1) n
theorem upto_range : ∀ (n i : Nat), List.range' i n = upto i n
  | 0, _ => rfl
  | n + 1, i => by
    rw [List.range'_succ, upto_range n (i + 1)]
    rfl
theorem wpr (n : Nat) {id : Nat} (h : wpOps P ops Q (upto 0 n) a w) (hn : ops.size = n := by rfl) : (Code.region id ops false).wp P Q a w := by
  refine wp_region ?_
  rw [hn, List.range_eq_range', upto_range]
  exact h
theorem frX {x : Oper} {u : Oper → Bool} {b : Bool} (e : u x = b) : ∀ o, some x = some o → u o = b := by rintro o ⟨⟩; exact e
theorem opkn (i d : Nat) {rest : List Nat} (hk : Know N df a L) (hy : ∀ o, ops[i]? = some o → Region.wanted o (yielded ops a.tmps) = false)
    (h : ∀ a' : Act, Know N df a' ((d, undef) :: L) → wpOps P ops Q rest a' w) (hd : (ops[i]?).map (·.dst) = some (some d) := by kernel_rfl) (hz : Nat.ble (d + 1) N = true := by rfl) (hf : fresh d L = true := by rfl) : wpOps P ops Q (i :: rest) a w :=
  opL_not i d hd (by rw [hk.z]; exact Nat.le_of_ble_eq_true hz) hy (fun a' F => h a' (Know.fr F hk hf))
theorem opk (i d : Nat) {rest : List Nat} (hk : Know N df a L) (hy : ∀ o, ops[i]? = some o → Region.wanted o (yielded ops a.tmps) = true ∧ (execOp a.eval o).run P w = .ok (.value v) w')
    (h : ∀ a' : Act, Know N df a' ((d, v) :: L) → wpOps P ops Q rest a' w') (hd : (ops[i]?).map (·.dst) = some (some d) := by kernel_rfl) (hz : Nat.ble (d + 1) N = true := by rfl) (hf : fresh d L = true := by rfl) : wpOps P ops Q (i :: rest) a w :=
  opL i d hd (by rw [hk.z]; exact Nat.le_of_ble_eq_true hz) hy (fun a' F => h a' (Know.fr F hk hf))
theorem opkc (i d : Nat) {rest : List Nat} {f : FuncId} {args : Array Value} {R : Value → World → Prop} (hk : Know N df a L) (hc : Calls P f args w fun e w' => ∃ v, e = .returned v ∧ R v w')
    (hy : ∀ o, ops[i]? = some o → Region.wanted o (yielded ops a.tmps) = true ∧ (execOp a.eval o).run P w = .ok (.enter f args) w)
    (h : ∀ (v : Value) (w' : World) (a' : Act), R v w' → Know N df a' ((d, v) :: L) → wpOps P ops Q rest a' w') (hd : (ops[i]?).map (·.dst) = some (some d) := by kernel_rfl) (hz : Nat.ble (d + 1) N = true := by rfl) (hf : fresh d L = true := by rfl) : wpOps P ops Q (i :: rest) a w :=
  opL_call i d hd (by rw [hk.z]; exact Nat.le_of_ble_eq_true hz) hy hc (fun v w' a' hR F => h v w' a' hR (Know.fr F hk hf))
end
theorem itoa_any (n : Int) (w : World) (hT : Tabs w) (h0 : -9223372036854775808 ≤ n ∧ n ≤ 9223372036854775807) : Calls Tryz.prog 31 #[.int .i64 n] w fun e w' => ∃ v, e = .returned v ∧ v = .string ⟨(Lib.itoa n).toArray⟩ ∧ Below w.heap.size w w' :=
  (Tryz.strconv_Itoa n h0.1 h0.2 w hT.pow).mono fun e w' ⟨he, k, os, hw⟩ => ⟨_, he, rfl, by rw [hw]; exact below_grow⟩
section
variable {w : World} {ρ : Operand → Value} {o : Oper} {x y : Operand} {b i n k c : Nat} {m p : Int} {ad : Addr} {v u : Value}
theorem k_atS' (ho : o.op = .indexAddr 42 x y) (hx : ρ x = .slice (some ⟨b, 0, none⟩) k c) (hy : ρ y = .int .i64 i) (hi : i < k) : (execOp ρ o).run Tryz.prog w = .ok (.value (.pointer (some ⟨b, i, none⟩))) w := by
  simp only [execOp, ho]
  go_simp
end

def row {α : Type} (tx : α → List UInt8) (l : List α) (i : Nat) : Array Value := ((l.take i).map (fun x => Value.string ⟨(tx x).toArray⟩) ++ List.replicate (l.length - i) (Value.string ⟨#[]⟩)).toArray
end Go.Proofs.YtjdjekpbjnkliaaGreatDoor
