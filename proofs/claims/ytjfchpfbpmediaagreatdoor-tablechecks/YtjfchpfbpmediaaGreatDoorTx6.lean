/-
  table: slices.Contains over texts; the law's word.
-/
import Derived.Test.YtjfchpfbpmediaaGreatDoorTx4
namespace Go.Proofs.YtjfchpfbpmediaaGreatDoor
open Go Go.RowKit
theorem sb_eq [Ltr] {x y : Value} {s t : ByteArray} {b : Bool} (hx : ∀ (E : Ren) z, Rel E x z → z = .string s) (hy : ∀ (E : Ren) z, Rel E y z → z = .string t) (h : decide (s = t) = b) : OEOk Tryz.prog (binT .eql 9 9 x y (.bool b)) :=
  binT_ok fun o ρ u v E w ho ha hb => by
    have e1 := hx E _ ha
    have e2 := hy E _ hb
    refine ⟨.bool b, ?_, .same rfl⟩
    subst h
    simp only [execOp, ho, e1, e2]
    go_simp
    exact (beq_toListBytes s t).symm.trans (ba_beq s t)
theorem ix_ltr [Ltr] {i j k p : Nat} {s : ByteArray} (hi : Ltr.v i = some (.string s)) (hk : Ltr.v k = some (.int .i64 p)) (hp : p < s.size) (hj : Ltr.v j = some (.int .u8 (s[p].toNat : Nat))) : OEOk Tryz.prog (idxE 9 (Lt i) (Lt k) (Lt j)) :=
  idxE_ok fun o ρ a b E w ho ha hb => by
    have e1 := is_ltr hi E _ ha
    have e2 := is_ltr hk E _ hb
    refine ⟨.int .u8 (s[p].toNat : Nat), ?_, .ltr hj rfl⟩
    simp only [execOp, ho, e1, e2]
    go_simp
theorem ix_num [Ltr] {i j p : Nat} {s : ByteArray} (hi : Ltr.v i = some (.string s)) (hp : p < s.size) (hj : Ltr.v j = some (.int .u8 (s[p].toNat : Nat))) : OEOk Tryz.prog (idxE 9 (Lt i) (.int .i64 p) (Lt j)) :=
  idxE_ok fun o ρ a b E w ho ha hb => by
    have e1 := is_ltr hi E _ ha
    have e2 := is_flat rfl E _ hb
    refine ⟨.int .u8 (s[p].toNat : Nat), ?_, .ltr hj rfl⟩
    simp only [execOp, ho, e1, e2]
    go_simp
theorem len_ba [Ltr] {i j : Nat} {s : ByteArray} (hi : Ltr.v i = some (.string s)) (hj : Ltr.v j = some (.int .i64 s.size)) : OEOk Tryz.prog (lenE 9 (Lt i) (Lt j)) :=
  lenE_ok fun o ρ a E w ho ha => by
    have e1 := is_ltr hi E _ ha
    refine ⟨.int .i64 s.size, ?_, .ltr hj rfl⟩
    simp only [execOp, ho]
    go_simp
namespace Tbl
/-- where a text stands first -/
def idx (s : ByteArray) : List ByteArray → Nat → Option Nat
  | [], _ => none
  | t :: l, j => bif decide (s = t) then some j else idx s l (j + 1)
theorem idx_any {s : ByteArray} : ∀ {l : List ByteArray} {j : Nat}, (idx s l j).isSome = l.any fun t => decide (t = s)
  | [], _ => rfl
  | t :: l, j => by
    unfold idx
    rw [List.any_cons, show decide (t = s) = decide (s = t) by rw [decide_eq_decide]; exact eq_comm]
    cases decide (s = t) with
    | true => rfl
    | false => rw [cond_false, Bool.false_or]; exact idx_any
end Tbl
noncomputable def siB : Code := inLoop (loopOf Tryz.prog 26 0)
def siS : St := ⟨fr 19 [(0, Lt 0), (1, Lt 1), (7, Lt 2), (8, Lt 3)], ⟨64, []⟩, []⟩
def siX (o : Option Nat) : Exit := match o with
  | none => .exit 0
  | some _ => .ret
def siE (o : Option Nat) : St := match o with
  | none => ⟨fr 19 [], ⟨64, []⟩, []⟩
  | some _ => ⟨fr 19 [(4, Lt 7)], ⟨64, []⟩, []⟩
noncomputable def siC (o : Option Nat) : CE := ⟨.loop siB, traL [(.int .i64 0, Lt 3), (Lt 0, Lt 0), (Lt 1, Lt 1), (Lt 2, Lt 2)] [] [], 64, [], siS, siX o, siE o⟩
def siL0 : List OE := [binE .lss (Lt 3) (Lt 2) (.bool true), iaE 37 (Lt 0) (Lt 3) (Lt 4), ldE 9 (Lt 4) (Lt 5)]
theorem si_run1 (n : Nat) : ComG (binT .eql 9 9 (Lt 1) (Lt 5) (.bool true) :: siL0) [] [] [] 40 siB siS .ret (traL [(Lt 3, Lt 7)] [] []) 64 [] (siE (some n)) := by show _ = _; kernel_rfl
theorem si_run2 : ComG (binT .eql 9 9 (Lt 1) (Lt 5) (.bool false) :: binE .add (Lt 3) (.int .i64 (1 : Nat)) (Lt 6) :: siL0) [] [] [] 40 siB siS .normal (traL [(Lt 6, Lt 3), (Lt 0, Lt 0), (Lt 1, Lt 1), (Lt 2, Lt 2)] [] []) 64 [] siS := by show _ = _; kernel_rfl
theorem si_run3 : ComG [binE .lss (Lt 3) (Lt 2) (.bool false)] [] [] [] 40 siB siS (.exit 0) (traL [] [] []) 64 [] (siE none) := by show _ = _; kernel_rfl
theorem si_run4 : SymG [lenE 37 (Lt 0) (Lt 2)] [] [siC none] [] 40 26 [Lt 0, Lt 1] (.int .i64 (-1)) := by delta SymG; show _ = _; kernel_rfl
theorem si_run5 (n : Nat) : SymG [lenE 37 (Lt 0) (Lt 2)] [] [siC (some n)] [] 40 26 [Lt 0, Lt 1] (Lt 7) := by delta SymG; show _ = _; kernel_rfl
abbrev siLt (S : Value) (s : ByteArray) (l : List ByteArray) (n j : Nat) : Ltr := ltrL [S, .string s, .int .i64 l.length, .int .i64 j, .pointer (some (elOf S j)), .string (l.getD j ⟨#[]⟩), .int .i64 (j + 1 : Nat), .int .i64 n]
/-- texts in memory: a slice of them -/
def TextsIn (w : World) (S : Value) (l : List ByteArray) : Prop := l.length ≤ 1000000 ∧ ∃ A cp, S = .slice A l.length cp ∧ ∀ (j : Nat) x, l[j]? = some x → ∃ a : Addr, A = some a ∧ elOf S j = a.add j ∧ w.cell? (a.add j) = some (.string x)
theorem TextsIn.keep {w w' : World} {S : Value} {l : List ByteArray} (h : TextsIn w S l) (k : ∀ b, (kep w) b → w'.heap[b]? = (kep w).ob b) : TextsIn w' S l := by
  obtain ⟨h1, A, cp, h2, h3⟩ := h
  refine ⟨h1, A, cp, h2, fun j x hj => ?_⟩
  obtain ⟨a, h4, h5, h6⟩ := h3 j x hj
  exact ⟨a, h4, h5, cell_keep h6 k⟩
theorem si_ce {w : World} {S : Value} {l : List ByteArray} (hS : TextsIn w S l) (s : ByteArray) {o : Option Nat} (ho : Tbl.idx s l 0 = o) : @CEOk (siLt S s l (o.getD 0) 0) Tryz.prog 64 (kep w) 64 (siC o) := by
  obtain ⟨hlen, A, cp, hA, hel⟩ := hS
  refine @ce_of Tryz.prog 64 (kep w) 64 (siLt S s l (o.getD 0) 0) Nat (fun j => siLt S s l (o.getD 0) j) (fun _ => siS) (fun j => l.length - j) (fun j => j ≤ l.length ∧ Tbl.idx s (l.drop j) j = o) (siC o) siB rfl ?_ 0 ⟨Nat.zero_le _, by simpa using ho⟩ rfl (traL_ok (ac (fl_go rfl rfl rfl) (ac (lt_go rfl) (ac (lt_go rfl) (ac (lt_go rfl) an)))) an an) an
  rintro j ⟨hj, hd⟩ ro k E a w' h
  let L : Ltr := siLt S s l (o.getD 0) j
  by_cases hlt : j < l.length
  · have hgd : l.getD j ⟨#[]⟩ = l[j] := by simp [hlt]
    obtain ⟨ad, hA2, he, hcell⟩ := hel j l[j] (by simp [hlt])
    rw [List.drop_eq_getElem_cons hlt, Tbl.idx] at hd
    have h0 : L.v 0 = some (.slice (some ad) l.length cp) := by show some S = _; rw [hA, hA2]
    have h4 : L.v 4 = some (.pointer (some (ad.add j))) := by show some (Value.pointer (some (elOf S j))) = _; rw [he]
    have h5 : L.v 5 = some (.string l[j]) := by show some (Value.string (l.getD j ⟨#[]⟩)) = _; rw [hgd]
    have hO : ∀ e ∈ siL0, @OEOkX L Tryz.prog (kep w) e := ac (@bll L _ _ _ _ _ _ _ rfl rfl (xk_lt (decide_eq_true hlt)) (@to_flat L _ rfl)).x (ac (@a_el L 0 4 3 _ _ _ _ h0 rfl h4 hlt).x (ac (@l_el L (kep w) 4 5 _ _ h4 h5 fun w2 k => cell_keep hcell k) an))
    cases hq : decide (s = l[j]) with
    | true =>
      rw [hq] at hd
      obtain rfl : some j = o := hd
      refine r_out (by intro h; cases h) (toldG L (ac (@sb_eq L _ _ _ _ _ (@is_ltr L 1 _ rfl) (@is_ltr L 5 _ h5) hq).x hO) an an an (traL_ok ?_ an an) an (si_run1 j) h)
      exact ac (lt_go rfl) an
    | false =>
      rw [hq] at hd
      refine r_on (j + 1) (toldG L (ac (@sb_eq L _ _ _ _ _ (@is_ltr L 1 _ rfl) (@is_ltr L 5 _ h5) hq).x (ac (@bl L _ _ _ _ _ _ rfl rfl (x_add (n := j) (m := 1) (by omega)) (@to_ltr L 6 _ rfl rfl)).x hO)) an an an (traL_ok ?_ an an) an si_run2 h) ⟨hlt, hd⟩ (by show l.length - (j + 1) < l.length - j; omega)
      exact ac (lt_go rfl) (ac (lt_go rfl) (ac (lt_go rfl) (ac (lt_go rfl) an)))
  · rw [List.drop_eq_nil_of_le (by omega)] at hd
    obtain rfl : none = o := hd
    exact r_out (by intro h; cases h) (toldG L (ac (@bll L _ _ _ _ _ _ _ rfl rfl (xk_lt (decide_eq_false hlt)) (@to_flat L _ rfl)).x an) an an an (traL_ok an an an) an si_run3 h)
def idxI (o : Option Nat) : Int := match o with
  | some j => j
  | none => -1
theorem index_any {w : World} {S : Value} {l : List ByteArray} (hS : TextsIn w S l) (s : ByteArray) : Calls Tryz.prog 26 #[S, .string s] w fun e w' => e = .returned (.int .i64 (idxI (Tbl.idx s l 0))) ∧ Below w.heap.size w w' := by
  have hc := fun o ho => si_ce hS s (o := o) ho
  have hs : sgl S = true := by obtain ⟨_, A, cp, hA, _⟩ := hS; rw [hA]; rfl
  generalize ho : Tbl.idx s l 0 = o at hc ⊢
  let L : Ltr := siLt S s l (o.getD 0) 0
  have hO : ∀ e ∈ [lenE 37 (Lt 0) (Lt 2)], @OEOkX L Tryz.prog (kep w) e := by
    obtain ⟨_, A, cp, hA, _⟩ := hS
    exact ac (@l_sl L 0 2 l.length cp A (by show some S = _; rw [hA]) rfl).x an
  cases o with
  | none => exact symGF L 40 hO an (ac (hc none rfl) an) an (.cons (.ltr rfl hs) (.cons (.ltr rfl rfl) .nil)) rfl si_run4
  | some n =>
    refine (symG hO an (ac (hc (some n) rfl) an) an (.cons (.ltr rfl hs) (.cons (.ltr rfl rfl) .nil)) (si_run5 n)).mono fun _ _ p => ?_
    obtain ⟨v', F, rfl, h2, h3⟩ := p
    rw [@is_ltr L 7 _ rfl F _ h2]
    exact ⟨rfl, h3⟩
theorem contains_any {w : World} {S : Value} {l : List ByteArray} (hS : TextsIn w S l) (s : ByteArray) : Calls Tryz.prog 18 #[S, .string s] w fun e w' => e = .returned (.bool (l.any fun t => decide (t = s))) ∧ Below w.heap.size w w' := by
  have key : ∀ a : Bool, Sym [binE .geq (Lt 2) (.int .i64 (0 : Nat)) (.bool a)] [(26, patP [([Lt 0, Lt 1], Lt 2)])] 30 18 [Lt 0, Lt 1] (.bool a) := by
    intro a; cases a <;> (delta Sym; show _ = _; kernel_rfl)
  have hs : sgl S = true := by obtain ⟨_, A, cp, hA, _⟩ := hS; rw [hA]; rfl
  let L : Ltr := ltrL [S, .string s, .int .i64 (idxI (Tbl.idx s l 0))]
  refine (@symJ L _ _ 30 _ _ _ _ _ (ac (@bl L _ _ _ _ _ _ rfl rfl (show binX .geq (.int .i64 (idxI (Tbl.idx s l 0))) (.int .i64 (0 : Nat)) = some (.bool (decide (idxI (Tbl.idx s l 0) ≥ (0 : Nat)))) from rfl) (@to_flat L _ rfl)) an) (ac (@patP_ok _ _ _ L _ _ (ac ?_ an)) an) (.cons (.ltr rfl hs) (.cons (.ltr rfl rfl) .nil)) rfl (key _)).mono fun e w' p => ⟨p.1.trans ?_, p.2⟩
  · intro E w' args' k ha
    cases ha with
    | cons h1 t1 =>
      cases t1 with
      | cons h2 t2 =>
        cases t2
        rw [@is_ltr L 0 _ rfl E _ h1, @is_ltr L 1 _ rfl E _ h2]
        exact (index_any (hS.keep k) s).mono fun e w' p => ⟨_, p.1, @Rel.ltr L _ 2 _ rfl rfl, p.2⟩
  · rw [← Tbl.idx_any (j := 0)]
    cases Tbl.idx s l 0 with
    | none => rfl
    | some j =>
      have : decide (idxI (some j) ≥ ((0 : Nat) : Int)) = true := decide_eq_true (by show (j : Int) ≥ 0; omega)
      rw [this]
      rfl
end Go.Proofs.YtjfchpfbpmediaaGreatDoor
/-
  table: the law's word.
-/
namespace Go.Proofs.YtjfchpfbpmediaaGreatDoor
open Go Go.RowKit
namespace Tbl
theorem wd_last : ∀ {l : List UInt8} {i : Bool}, wd i (l ++ [32]) ≠ some true
  | [], i => by cases i <;> decide
  | c :: l, i => by
    rw [List.cons_append, wd]
    cases lb c.toNat with
    | true => exact wd_last
    | false =>
      cases (decide (c.toNat = 32) && i) with
      | true => exact wd_last
      | false => intro h; cases h
theorem isW_last {l : List UInt8} (h : l.getLast? = some 32) : isW l = false := by
  obtain ⟨m, rfl⟩ : ∃ m, l = m ++ [32] := by
    rw [List.getLast?_eq_some_iff] at h
    exact h
  unfold isW
  cases hw : wd false (m ++ [32]) with
  | none => rfl
  | some b =>
    cases b with
    | false => rfl
    | true => exact absurd hw wd_last
theorem lb32 : lb 32 = false := rfl
end Tbl
noncomputable def lwB : Code := inLoop (loopOf Tryz.prog 17 0)
def lwS : St := ⟨fr 50 [(0, Lt 0), (21, Lt 1), (22, Lt 2)], ⟨64, []⟩, []⟩
def lwX (o : Option Bool) : Exit := match o with
  | some _ => .exit 0
  | none => .ret
def lwE (o : Option Bool) : St := match o with
  | some _ => ⟨fr 50 [], ⟨64, []⟩, []⟩
  | none => ⟨fr 50 [(2, .bool false)], ⟨64, []⟩, []⟩
noncomputable def lwC (o : Option Bool) : CE := ⟨.loop lwB, traL [(.int .i64 0, Lt 2), (Lt 0, Lt 0), (Lt 1, Lt 1)] [] [], 64, [], lwS, lwX o, lwE o⟩
def lwL0 (e : Bool) : List OE := [binE .lss (Lt 2) (Lt 1) (.bool true), idxE 9 (Lt 0) (Lt 2) (Lt 3), binE .eql (Lt 3) (.int .u8 (32 : Nat)) (.bool e)]
def lwL1 (f : Bool) : List OE := binE .sub (Lt 2) (.int .i64 (1 : Nat)) (Lt 4) :: idxE 9 (Lt 0) (Lt 4) (Lt 5) :: binE .eql (Lt 5) (.int .u8 (32 : Nat)) (.bool f) :: binE .add (Lt 2) (.int .i64 (1 : Nat)) (Lt 6) :: lwL0 true
def lwL2 (a b c d : Bool) : List OE := binE .lss (Lt 3) (.int .u8 (97 : Nat)) (.bool a) :: binE .gtr (Lt 3) (.int .u8 (122 : Nat)) (.bool b) :: binE .neq (Lt 3) (.int .u8 (39 : Nat)) (.bool c) :: binE .lss (Lt 3) (.int .u8 (128 : Nat)) (.bool d) :: binE .add (Lt 2) (.int .i64 (1 : Nat)) (Lt 6) :: lwL0 false
def lwN : Tra := traL [(Lt 6, Lt 2), (Lt 0, Lt 0), (Lt 1, Lt 1)] [] []
theorem lw_run1 : ComG (lwL1 true) [] [] [] 60 lwB lwS .ret (traL [] [] []) 64 [] (lwE none) := by show _ = _; kernel_rfl
theorem lw_run2 : ComG (lwL1 false) [] [] [] 60 lwB lwS .normal lwN 64 [] lwS := by show _ = _; kernel_rfl
theorem lw_run3 (a b c d : Bool) (h : ((a || b) && c && d) = true) : ComG (lwL2 a b c d) [] [] [] 60 lwB lwS .ret (traL [] [] []) 64 [] (lwE none) := by
  cases a <;> cases b <;> cases c <;> cases d <;> first | (cases h; done) | (show _ = _; kernel_rfl)
theorem lw_run4 (a b c d : Bool) (h : ((a || b) && c && d) = false) : ComG (lwL2 a b c d) [] [] [] 60 lwB lwS .normal lwN 64 [] lwS := by
  cases a <;> cases b <;> cases c <;> cases d <;> first | (cases h; done) | (show _ = _; kernel_rfl)
theorem lw_run5 : ComG [binE .lss (Lt 2) (Lt 1) (.bool false)] [] [] [] 60 lwB lwS (.exit 0) (traL [] [] []) 64 [] (lwE (some true)) := by show _ = _; kernel_rfl
theorem lw_run6 : SymG [binT .eql 9 9 (Lt 0) (.string ⟨#[]⟩) (.bool true)] [] [] [] 60 17 [Lt 0] (.bool false) := by delta SymG; show _ = _; kernel_rfl
def lwL3 (b d : Bool) : List OE := [binT .eql 9 9 (Lt 0) (.string ⟨#[]⟩) (.bool false), idxE 9 (Lt 0) (.int .i64 (0 : Nat)) (Lt 7), binE .eql (Lt 7) (.int .u8 (32 : Nat)) (.bool b), lenE 9 (Lt 0) (Lt 1), binE .sub (Lt 1) (.int .i64 (1 : Nat)) (Lt 8), idxE 9 (Lt 0) (Lt 8) (Lt 9), binE .eql (Lt 9) (.int .u8 (32 : Nat)) (.bool d)]
theorem lw_run7 (b d : Bool) (h : (b || d) = true) : SymG (lwL3 b d) [] [] [] 60 17 [Lt 0] (.bool false) := by
  cases b <;> cases d <;> first | (cases h; done) | (delta SymG; show _ = _; kernel_rfl)
theorem lw_run8 (o : Option Bool) (h : o = none ∨ o = some true) : SymG (lwL3 false false) [] [lwC o] [] 60 17 [Lt 0] (.bool (o.getD false)) := by
  rcases h with rfl | rfl <;> (delta SymG; show _ = _; kernel_rfl)
def byteAt (s : ByteArray) (p : Nat) : Nat := (s.data.toList.getD p 0).toNat
theorem byteAt_eq {s : ByteArray} {p : Nat} (h : p < s.size) : (s[p].toNat : Nat) = byteAt s p := by
  unfold byteAt
  have h' : p < s.data.toList.length := h
  rw [List.getD_eq_getElem?_getD, List.getElem?_eq_getElem h', Option.getD_some]
  exact (show (s[p] : UInt8).toNat = (s.data.toList[p]'h').toNat from rfl)
abbrev lwLt (s : ByteArray) (i : Nat) : Ltr := ltrL [.string s, .int .i64 s.size, .int .i64 i, .int .u8 (byteAt s i), .int .i64 (i - 1 : Nat), .int .u8 (byteAt s (i - 1)), .int .i64 (i + 1 : Nat), .int .u8 (byteAt s 0), .int .i64 (s.size - 1 : Nat), .int .u8 (byteAt s (s.size - 1))]
/-- a letter stands ahead -/
def inn (s : ByteArray) (i : Nat) : Bool := decide (0 < i) && !decide (byteAt s (i - 1) = 32)
theorem drop_byte {s : ByteArray} {p : Nat} (h : p < s.size) : ∃ c, s.data.toList.drop p = c :: s.data.toList.drop (p + 1) ∧ c.toNat = byteAt s p := by
  have h' : p < s.data.toList.length := h
  refine ⟨s.data.toList[p], List.drop_eq_getElem_cons h', ?_⟩
  unfold byteAt
  rw [List.getD_eq_getElem?_getD, List.getElem?_eq_getElem h', Option.getD_some]
theorem lb_not (c : Nat) : Tbl.lb c = !((decide (c < 97) || decide (122 < c)) && decide (c ≠ 39) && decide (c < 128)) := by
  unfold Tbl.lb
  rw [Bool.eq_iff_iff]
  simp
theorem lw_ce (s : ByteArray) (hsz : s.size ≤ 1000000000) (h0 : byteAt s 0 ≠ 32) (hpos : 0 < s.size) (hl : byteAt s (s.size - 1) ≠ 32) (w : World) {o : Option Bool} (ho : Tbl.wd false s.data.toList = o) : @CEOk (lwLt s 0) Tryz.prog 64 (kep w) 64 (lwC o) := by
  refine @ce_of Tryz.prog 64 (kep w) 64 (lwLt s 0) Nat (fun i => lwLt s i) (fun _ => lwS) (fun i => s.size - i) (fun i => i ≤ s.size ∧ Tbl.wd (inn s i) (s.data.toList.drop i) = o) (lwC o) lwB rfl ?_ 0 ⟨Nat.zero_le _, by simpa [inn] using ho⟩ rfl (traL_ok (ac (fl_go rfl rfl rfl) (ac (lt_go rfl) (ac (lt_go rfl) an))) an an) an
  rintro i ⟨hi, hd⟩ ro k E a w' h
  let L : Ltr := lwLt s i
  by_cases hlt : i < s.size
  · obtain ⟨c, hdr, hc⟩ := drop_byte hlt
    rw [hdr, Tbl.wd, hc] at hd
    have hO0 : ∀ e, decide (byteAt s i = 32) = e → ∀ x ∈ lwL0 e, @OEOkX L Tryz.prog (kep w) x := fun e he =>
      ac (@bll L _ _ _ _ _ _ _ rfl rfl (xk_lt (decide_eq_true hlt)) (@to_flat L _ rfl)).x (ac (@ix_ltr L 0 3 2 i s rfl rfl hlt (by rw [byteAt_eq hlt]; rfl)).x (ac (@bl L _ _ _ _ _ _ rfl rfl (xk_eq he) (@to_flat L _ rfl)).x an))
    have hadd : @OEOkX L Tryz.prog (kep w) (binE .add (Lt 2) (.int .i64 (1 : Nat)) (Lt 6)) := (@bl L _ _ _ _ _ _ rfl rfl (x_add (n := i) (m := 1) (by omega)) (@to_ltr L 6 _ rfl rfl)).x
    by_cases h32 : byteAt s i = 32
    · rw [h32, Tbl.lb32] at hd
      have hi0 : 0 < i := by
        rcases Nat.eq_zero_or_pos i with h | h
        · rw [h] at h32; exact absurd h32 h0
        · exact h
      have hlt2 : i - 1 < s.size := by omega
      have hO1 : ∀ f, decide (byteAt s (i - 1) = 32) = f → ∀ x ∈ lwL1 f, @OEOkX L Tryz.prog (kep w) x := fun f hf =>
        ac (@bl L _ _ _ _ _ _ rfl rfl (x_sub (n := i) (m := 1) hi0 (by omega)) (@to_ltr L 4 _ rfl rfl)).x (ac (@ix_ltr L 0 5 4 (i - 1) s rfl rfl hlt2 (by rw [byteAt_eq hlt2]; rfl)).x (ac (@bl L _ _ _ _ _ _ rfl rfl (xk_eq hf) (@to_flat L _ rfl)).x (ac hadd (hO0 true (decide_eq_true h32)))))
      have hin : inn s i = !decide (byteAt s (i - 1) = 32) := by unfold inn; rw [decide_eq_true hi0]; rfl
      rw [hin] at hd
      cases hf : decide (byteAt s (i - 1) = 32) with
      | true =>
        rw [hf] at hd
        obtain rfl : none = o := hd
        exact r_out (by intro h; cases h) (toldG L (hO1 true hf) an an an (traL_ok an an an) an lw_run1 h)
      | false =>
        rw [hf] at hd
        refine r_on (i + 1) (toldG L (hO1 false hf) an an an (traL_ok ?_ an an) an lw_run2 h) ⟨hlt, ?_⟩ (by show s.size - (i + 1) < s.size - i; omega)
        · exact ac (lt_go rfl) (ac (lt_go rfl) (ac (lt_go rfl) an))
        · rw [← hd]
          have : inn s (i + 1) = false := by unfold inn; rw [Nat.add_sub_cancel, h32]; simp
          rw [this]
          rfl
    · have hO2 : ∀ x ∈ lwL2 (decide (byteAt s i < 97)) (decide (122 < byteAt s i)) (decide (byteAt s i ≠ 39)) (decide (byteAt s i < 128)), @OEOkX L Tryz.prog (kep w) x :=
        ac (@bl L _ _ _ _ _ _ rfl rfl (xk_lt rfl) (@to_flat L _ rfl)).x (ac (@bl L _ _ _ _ _ _ rfl rfl (xk_gt rfl) (@to_flat L _ rfl)).x (ac (@bl L _ _ _ _ _ _ rfl rfl (xk_ne rfl) (@to_flat L _ rfl)).x (ac (@bl L _ _ _ _ _ _ rfl rfl (xk_lt rfl) (@to_flat L _ rfl)).x (ac hadd (hO0 false (decide_eq_false h32))))))
      rw [lb_not, decide_eq_false h32] at hd
      cases hq : ((decide (byteAt s i < 97) || decide (122 < byteAt s i)) && decide (byteAt s i ≠ 39) && decide (byteAt s i < 128)) with
      | true =>
        rw [hq] at hd
        obtain rfl : none = o := hd
        exact r_out (by intro h; cases h) (toldG L hO2 an an an (traL_ok an an an) an (lw_run3 _ _ _ _ hq) h)
      | false =>
        rw [hq] at hd
        refine r_on (i + 1) (toldG L hO2 an an an (traL_ok ?_ an an) an (lw_run4 _ _ _ _ hq) h) ⟨hlt, ?_⟩ (by show s.size - (i + 1) < s.size - i; omega)
        · exact ac (lt_go rfl) (ac (lt_go rfl) (ac (lt_go rfl) an))
        · rw [← hd]
          have : inn s (i + 1) = true := by unfold inn; rw [Nat.add_sub_cancel]; simp [h32]
          rw [this]
          rfl
  · have hie : i = s.size := by omega
    have hd' : some (inn s i) = o := by
      rw [List.drop_eq_nil_of_le (by have : s.data.toList.length = s.size := rfl; omega)] at hd
      exact hd
    have : inn s i = true := by unfold inn; rw [hie]; simp [hl, hpos]
    rw [this] at hd'
    subst hd'
    exact r_out (by intro h; cases h) (toldG L (ac (@bll L _ _ _ _ _ _ _ rfl rfl (xk_lt (decide_eq_false hlt)) (@to_flat L _ rfl)).x an) an an an (traL_ok an an an) an lw_run5 h)
theorem lword_any (s : ByteArray) (hsz : s.size ≤ 1000000000) (w : World) : Calls Tryz.prog 17 #[.string s] w fun e w' => e = .returned (.bool (Tbl.isW s.data.toList)) ∧ Below w.heap.size w w' := by
  let L : Ltr := lwLt s 0
  have hlen : s.data.toList.length = s.size := rfl
  by_cases hs : s = ⟨#[]⟩
  · have hw : Tbl.isW s.data.toList = false := by rw [hs]; rfl
    rw [hw]
    exact symGF L 60 (ac (@sb_eq L _ _ _ _ _ (@is_ltr L 0 _ rfl) (@is_flat L _ rfl) (decide_eq_true hs)).x an) an an an (.cons (.ltr rfl rfl) .nil) rfl lw_run6
  · have hpos : 0 < s.size := by
      rcases Nat.eq_zero_or_pos s.size with h | h
      · exfalso
        apply hs
        obtain ⟨⟨l⟩⟩ := s
        have : l.length = 0 := h
        rw [List.eq_nil_of_length_eq_zero this]
      · exact h
    have hlt2 : s.size - 1 < s.size := by omega
    have hO : ∀ x ∈ lwL3 (decide (byteAt s 0 = 32)) (decide (byteAt s (s.size - 1) = 32)), @OEOkX L Tryz.prog (kep w) x :=
      ac (@sb_eq L _ _ _ _ _ (@is_ltr L 0 _ rfl) (@is_flat L _ rfl) (decide_eq_false hs)).x (ac (@ix_num L 0 7 0 s rfl hpos (by rw [byteAt_eq hpos]; rfl)).x (ac (@bl L _ _ _ _ _ _ rfl rfl (xk_eq rfl) (@to_flat L _ rfl)).x (ac (@len_ba L 0 1 s rfl rfl).x
        (ac (@bl L _ _ _ _ _ _ rfl rfl (x_sub (n := s.size) (m := 1) hpos (by omega)) (@to_ltr L 8 _ rfl rfl)).x (ac (@ix_ltr L 0 9 8 (s.size - 1) s rfl rfl hlt2 (by rw [byteAt_eq hlt2]; rfl)).x (ac (@bl L _ _ _ _ _ _ rfl rfl (xk_eq rfl) (@to_flat L _ rfl)).x an))))))
    obtain ⟨c0, hd0, hc0⟩ := drop_byte hpos
    rw [List.drop_zero] at hd0
    cases hq : (decide (byteAt s 0 = 32) || decide (byteAt s (s.size - 1) = 32)) with
    | true =>
      have hw : Tbl.isW s.data.toList = false := by
        simp only [Bool.or_eq_true, decide_eq_true_eq] at hq
        rcases hq with h | h
        · unfold Tbl.isW
          rw [hd0, Tbl.wd, hc0, h]
          rfl
        · refine Tbl.isW_last ?_
          obtain ⟨c, hdc, hcc⟩ := drop_byte hlt2
          have hn : s.data.toList.drop (s.size - 1 + 1) = [] := List.drop_eq_nil_of_le (by omega)
          rw [hn] at hdc
          have : s.data.toList = s.data.toList.take (s.size - 1) ++ [c] := by
            rw [← hdc, List.take_append_drop]
          rw [this, List.getLast?_append]
          have h32 : c = 32 := by
            have : c.toNat = (32 : UInt8).toNat := by rw [hcc, h]; rfl
            exact UInt8.toNat_inj.1 this
          simp [h32]
      rw [hw]
      exact symGF L 60 hO an an an (.cons (.ltr rfl rfl) .nil) rfl (lw_run7 _ _ hq)
    | false =>
      simp only [Bool.or_eq_false_iff, decide_eq_false_iff_not] at hq
      have hce := fun o ho => lw_ce s hsz hq.1 hpos hq.2 w (o := o) ho
      rw [decide_eq_false hq.1, decide_eq_false hq.2] at hO
      have hcase : Tbl.wd false s.data.toList = none ∨ Tbl.wd false s.data.toList = some true := by
        have key : ∀ {l : List UInt8} {i : Bool}, l ≠ [] → (∀ c, l.getLast? = some c → c.toNat ≠ 32) → Tbl.wd i l = none ∨ Tbl.wd i l = some true := by
          intro l
          induction l with
          | nil => intro i h; exact absurd rfl h
          | cons c l ih =>
            intro i _ hl
            rw [Tbl.wd]
            cases l with
            | nil =>
              have := hl c rfl
              cases Tbl.lb c.toNat with
              | true => exact .inr rfl
              | false => rw [decide_eq_false this]; exact .inl rfl
            | cons d l =>
              have hl2 : ∀ c', (d :: l).getLast? = some c' → c'.toNat ≠ 32 := fun c' h => hl c' (by rw [List.getLast?_cons_cons]; exact h)
              cases Tbl.lb c.toNat with
              | true => exact ih (by simp) hl2
              | false =>
                cases (decide (c.toNat = 32) && i) with
                | true => exact ih (by simp) hl2
                | false => exact .inl rfl
        refine key ?_ ?_
        · rw [hd0]; simp
        · intro c hc
          have : s.data.toList.getLast? = s.data.toList[s.size - 1]? := by rw [List.getLast?_eq_getElem?, hlen]
          rw [this] at hc
          have h2 := hq.2
          unfold byteAt at h2
          rw [List.getD_eq_getElem?_getD, hc] at h2
          exact h2
      unfold Tbl.isW
      generalize ho : Tbl.wd false s.data.toList = o at hce hcase ⊢
      exact symGF L 60 hO an (ac (hce o rfl) an) an (.cons (.ltr rfl rfl) .nil) rfl (lw_run8 o hcase)
end Go.Proofs.YtjfchpfbpmediaaGreatDoor
