/-
  table: the program's Check: its contract.
-/
import Derived.Test.YtjfchpfbpmediaaGreatDoorTx6
namespace Go.Proofs.YtjfchpfbpmediaaGreatDoor
open Go Go.RowKit
namespace Tbl
def catOf (tab : Nat → Nat → List ByteArray) (c : Nat) : Option Nat := catE (tab c) (cnt c) 0 (manyI c)
def orElse (a b : Option Nat) : Option Nat :=
  match a with
  | some e => some e
  | none => b
/-- the first fault of the categories from c on, k of them -/
def chkFrom (tab : Nat → Nat → List ByteArray) : Nat → Nat → Option Nat
  | _, 0 => none
  | c, k + 1 => orElse (catOf tab c) (chkFrom tab (c + 1) k)
def badK (kind style : Int) : Bool := decide (kind < 0) || decide (3 ≤ kind) || decide (style < 0) || decide (3 ≤ style)
/-- which fault a table has first -/
def chkV (kind style : Int) (tab : Nat → Nat → List ByteArray) : Nat := bif badK kind style then 6 else errN (chkFrom tab 0 19)
end Tbl
theorem chkFrom_is {f : Nat → Nat → List ByteArray} {e : Nat} : ∀ (k c : Nat), Tbl.chkFrom f c k = some e → e = 13 ∨ e = 2 ∨ e = 10 ∨ e = 5 := by
  intro k
  induction k with
  | zero => intro c h; cases h
  | succ k ih =>
    intro c h
    rw [Tbl.chkFrom] at h
    generalize h1 : Tbl.catOf f c = o at h
    cases o with
    | some x => obtain rfl := Option.some.inj h; exact catE_is h1
    | none => exact ih (c + 1) h
theorem err_cases {o : Option Nat} (h : ∀ e, o = some e → e = 13 ∨ e = 2 ∨ e = 10 ∨ e = 5) : o = none ∨ o = some 13 ∨ o = some 2 ∨ o = some 10 ∨ o = some 5 := by
  cases o with
  | none => exact .inl rfl
  | some e =>
    rcases h e rfl with rfl | rfl | rfl | rfl
    · exact .inr (.inl rfl)
    · exact .inr (.inr (.inl rfl))
    · exact .inr (.inr (.inr (.inl rfl)))
    · exact .inr (.inr (.inr (.inr rfl)))
theorem xi_lt {k : IntKind} {a b : Int} {r : Bool} (h : decide (a < b) = r) : binX .lss (.int k a) (.int k b) = some (.bool r) := by
  subst h
  show (bif decide (k = k) then some (Value.bool (decide (a < b))) else none) = _
  rw [decide_eq_true rfl]
  rfl
theorem xi_ge {k : IntKind} {a b : Int} {r : Bool} (h : decide (b ≤ a) = r) : binX .geq (.int k a) (.int k b) = some (.bool r) := by
  subst h
  show (bif decide (k = k) then some (Value.bool (decide (a ≥ b))) else none) = _
  rw [decide_eq_true rfl]
  rfl
theorem xi_gt {k : IntKind} {a b : Int} {r : Bool} (h : decide (b < a) = r) : binX .gtr (.int k a) (.int k b) = some (.bool r) := by
  subst h
  show (bif decide (k = k) then some (Value.bool (decide (a > b))) else none) = _
  rw [decide_eq_true rfl]
  rfl
noncomputable def kcB : Code := inLoop (loopOf Tryz.prog 8 0)
def kcS : St := ⟨fr 41 [(0, Lt 0), (31, Lt 5)], ⟨64, []⟩, []⟩
def kcX (o : Option Nat) : Exit := match o with
  | none => .exit 0
  | some _ => .ret
def kcE (o : Option Nat) : St := match o with
  | none => ⟨fr 41 [], ⟨64, []⟩, []⟩
  | some e => ⟨fr 41 [(2, .int .i64 e)], ⟨64, []⟩, []⟩
noncomputable def kcC (o : Option Nat) : CE := ⟨.loop kcB, traL [(.int .i64 0, Lt 5), (Lt 0, Lt 0)] [] [], 64, [], kcS, kcX o, kcE o⟩
def kcW (e : Nat) : List PE := [(16, patP [([Lt 0, Lt 5], .int .i64 e)])]
theorem kc_run1 (e : Nat) (h : e = 13 ∨ e = 2 ∨ e = 10 ∨ e = 5) : ComG [binE .lss (Lt 5) (.int .i64 (19 : Nat)) (.bool true)] [] [] (kcW e) 60 kcB kcS .ret (traL [] [] []) 64 [] (kcE (some e)) := by
  rcases h with rfl | rfl | rfl | rfl <;> (show _ = _; kernel_rfl)
theorem kc_run2 : ComG [binE .lss (Lt 5) (.int .i64 (19 : Nat)) (.bool true), binE .add (Lt 5) (.int .i64 (1 : Nat)) (Lt 7)] [] [] (kcW 0) 60 kcB kcS .normal (traL [(Lt 7, Lt 5), (Lt 0, Lt 0)] [] []) 64 [] kcS := by show _ = _; kernel_rfl
theorem kc_run3 : ComG [binE .lss (Lt 5) (.int .i64 (19 : Nat)) (.bool false)] [] [] [] 60 kcB kcS (.exit 0) (traL [] [] []) 64 [] (kcE none) := by show _ = _; kernel_rfl
/-- the fields, as both look at them -/
def kkO (op : BinOp) (n : Int) (a b c d : Bool) : List OE := [nilE (Lt 0), faE 42 1 (Lt 0) (Lt 1), ldE 38 (Lt 1) (Lt 2), binE .lss (Lt 2) (.int .i64 0) (.bool a), binE op (Lt 2) (.int .i64 n) (.bool b), faE 42 2 (Lt 0) (Lt 3), ldE 39 (Lt 3) (Lt 4), binE .lss (Lt 4) (.int .i64 0) (.bool c), binE op (Lt 4) (.int .i64 n) (.bool d)]
theorem kc_run4 (a b c d : Bool) (o : Option Nat) (h : o = none ∨ o = some 13 ∨ o = some 2 ∨ o = some 10 ∨ o = some 5) : SymG (kkO .geq 3 a b c d) [] [kcC o] [] 60 8 [Lt 0] (.int .i64 (bif a || b || c || d then (6 : Nat) else errN o : Nat)) := by
  rcases h with rfl | rfl | rfl | rfl | rfl <;> cases a <;> cases b <;> cases c <;> cases d <;> (delta SymG; show _ = _; kernel_rfl)
section
variable {w : World} {b mb clk : Nat} {kind style : Int} {es : List MapEntry} {tab : Nat → Nat → List ByteArray}
abbrev kcLt (b c : Nat) (kind style : Int) : Ltr := ltrL [.pointer (some ⟨b, 0, none⟩), .pointer (some ⟨b, 1, none⟩), .int .i64 kind, .pointer (some ⟨b, 2, none⟩), .int .i64 style, .int .i64 c, .int .i64 0, .int .i64 (c + 1 : Nat)]
theorem kc_ce (hT : TabIn w b kind style mb clk es tab) {o : Option Nat} (ho : Tbl.chkFrom tab 0 19 = o) : @CEOk (kcLt b 0 kind style) Tryz.prog 64 (kep w) 64 (kcC o) := by
  refine @ce_of Tryz.prog 64 (kep w) 64 (kcLt b 0 kind style) Nat (fun c => kcLt b c kind style) (fun _ => kcS) (fun c => 19 - c) (fun c => ∃ r, c + r = 19 ∧ Tbl.chkFrom tab c r = o) (kcC o) kcB rfl ?_ 0 ⟨19, rfl, ho⟩ rfl (traL_ok (ac (fl_go rfl rfl rfl) (ac (lt_go rfl) an)) an an) an
  rintro c ⟨r, hr, hd⟩ ro k E a w' h
  let L : Ltr := kcLt b c kind style
  cases r with
  | succ r =>
    have hlt : c < 19 := by omega
    rw [Tbl.chkFrom] at hd
    have hP : ∀ x, errN (Tbl.catOf tab c) = x → ∀ e ∈ kcW x, @PEOk L Tryz.prog (kep w) 64 e := fun x hx =>
      ac (@p2 L _ _ _ 0 5 _ _ _ rfl rfl rfl fun w2 k => by rw [← hx]; exact ccat_any (hT.keep k) c) an
    have hlss : @OEOkX L Tryz.prog (kep w) (binE .lss (Lt 5) (.int .i64 (19 : Nat)) (.bool true)) := (@bl L _ _ _ _ _ _ rfl rfl (xk_lt (decide_eq_true hlt)) (@to_flat L _ rfl)).x
    generalize hn : Tbl.catOf tab c = oc at hd hP
    cases oc with
    | some e =>
      obtain rfl : some e = o := hd
      exact r_out (by intro h; cases h) (toldG L (ac hlss an) an an (hP e rfl) (traL_ok an an an) an (kc_run1 e (catE_is hn)) h)
    | none =>
      refine r_on (c + 1) (toldG L (ac hlss (ac (@bl L _ _ _ _ _ _ rfl rfl (x_add (n := c) (m := 1) (by omega)) (@to_ltr L 7 _ rfl rfl)).x an)) an an (hP 0 rfl) (traL_ok ?_ an an) an kc_run2 h) ⟨r, by omega, hd⟩ (by show 19 - (c + 1) < 19 - c; omega)
      exact ac (lt_go rfl) (ac (lt_go rfl) an)
  | zero =>
    have hlt : ¬ c < 19 := by omega
    obtain rfl : none = o := hd
    exact r_out (by intro h; cases h) (toldG L (ac (@bl L _ _ _ _ _ _ rfl rfl (xk_lt (decide_eq_false hlt)) (@to_flat L _ rfl)).x an) an an an (traL_ok an an an) an kc_run3 h)
theorem kk_ok (hT : TabIn w b kind style mb clk es tab) {op : BinOp} {n : Int} {x y : Bool} (hx : binX op (.int .i64 kind) (.int .i64 n) = some (.bool x)) (hy : binX op (.int .i64 style) (.int .i64 n) = some (.bool y)) (L : Ltr) (h0 : L.v 0 = some (.pointer (some ⟨b, 0, none⟩))) (h1 : L.v 1 = some (.pointer (some ⟨b, 1, none⟩))) (h2 : L.v 2 = some (.int .i64 kind)) (h3 : L.v 3 = some (.pointer (some ⟨b, 2, none⟩))) (h4 : L.v 4 = some (.int .i64 style)) :
    ∀ e ∈ kkO op n (decide (kind < 0)) x (decide (style < 0)) y, @OEOkX L Tryz.prog (kep w) e :=
  ac (@nil_ok L 0 _ h0).x (ac (@fa_of L 0 1 b _ 1 1 (fa_tab1 b) h0 h1).x (ac (@ld_ok L (kep w) _ 1 _ _ _ (by kernel_rfl) h1 (@to_ltr L 2 _ h2 rfl) fun w2 k => cell_keep hT.k k)
    (ac (@bl L _ _ _ _ _ _ h2 rfl (xi_lt rfl) (@to_flat L _ rfl)).x (ac (@bl L _ _ _ _ _ _ h2 rfl hx (@to_flat L _ rfl)).x
      (ac (@fa_of L 0 3 b _ 2 2 (fa_tab2 b) h0 h3).x (ac (@ld_ok L (kep w) _ 3 _ _ _ (by kernel_rfl) h3 (@to_ltr L 4 _ h4 rfl) fun w2 k => cell_keep hT.s k)
        (ac (@bl L _ _ _ _ _ _ h4 rfl (xi_lt rfl) (@to_flat L _ rfl)).x (ac (@bl L _ _ _ _ _ _ h4 rfl hy (@to_flat L _ rfl)).x an))))))))
theorem check_tab (hT : TabIn w b kind style mb clk es tab) : Calls Tryz.prog 8 #[.pointer (some ⟨b, 0, none⟩)] w fun e w' => e = .returned (.int .i64 (Tbl.chkV kind style tab : Nat)) ∧ Below w.heap.size w w' := by
  have hce := fun o ho => kc_ce hT (o := o) ho
  have hcs : Tbl.chkFrom tab 0 19 = none ∨ Tbl.chkFrom tab 0 19 = some 13 ∨ Tbl.chkFrom tab 0 19 = some 2 ∨ Tbl.chkFrom tab 0 19 = some 10 ∨ Tbl.chkFrom tab 0 19 = some 5 := err_cases fun e h => chkFrom_is 19 0 h
  unfold Tbl.chkV Tbl.badK
  generalize ho : Tbl.chkFrom tab 0 19 = o at hce hcs ⊢
  let L : Ltr := kcLt b 0 kind style
  exact symGF L 60 (kk_ok hT (xi_ge rfl) (xi_ge rfl) L rfl rfl rfl rfl rfl) an (ac (hce o rfl) an) an (.cons (.ltr rfl rfl) .nil) rfl (kc_run4 _ _ _ _ o hcs)
end
end Go.Proofs.YtjfchpfbpmediaaGreatDoor
/-
  table: the law's Check: its contract, the same.
-/
namespace Go.Proofs.YtjfchpfbpmediaaGreatDoor
open Go Go.RowKit
noncomputable def luB : Code := inLoop (loopOf Tryz.prog 9 3)
noncomputable def ljB : Code := inLoop (loopOf Tryz.prog 9 2)
noncomputable def lvB : Code := inLoop (loopOf Tryz.prog 9 1)
noncomputable def lcB : Code := inLoop (loopOf Tryz.prog 9 0)
def lE (o : Option Nat) (s : List (Nat × Value)) : St := match o with
  | none => ⟨fr 92 s, ⟨64, []⟩, []⟩
  | some e => ⟨fr 92 [(2, .int .i64 e)], ⟨64, []⟩, []⟩
def lX (o : Option Nat) (x : Nat) : Exit := match o with
  | none => .exit x
  | some _ => .ret
def lcs : List (Nat × Value) := [(0, Lt 0), (35, Lt 1)]
def lvs : List (Nat × Value) := [(0, Lt 0), (3, Lt 1), (35, Lt 1), (39, Lt 12), (40, Lt 4)]
def ljs : List (Nat × Value) := [(0, Lt 0), (3, Lt 1), (4, Lt 4), (35, Lt 1), (39, Lt 12), (40, Lt 4), (65, Lt 5), (66, Lt 6), (67, Lt 8)]
def lus : List (Nat × Value) := [(0, Lt 0), (3, Lt 1), (4, Lt 4), (7, Lt 10), (35, Lt 1), (39, Lt 12), (40, Lt 4), (65, Lt 5), (66, Lt 6), (67, Lt 8), (74, Lt 4), (75, Lt 11)]
def ids (l : List Nat) : List (Value × Value) := l.map fun i => (Lt i, Lt i)
theorem ids_ok {L L' : Ltr} {l : List Nat} (h : ∀ i ∈ l, L.v i = L'.v i) : ∀ p ∈ ids l, ∀ (E E' : Ren) (x : Value), @Rel L E p.1 x → @Rel L' E' p.2 x := by
  intro p hp
  obtain ⟨i, hi, rfl⟩ := List.mem_map.1 hp
  exact lt_go (h i hi)
def lS (s : List (Nat × Value)) : St := ⟨fr 92 s, ⟨64, []⟩, []⟩
noncomputable def luC (o : Option Nat) : CE := ⟨.loop luB, traL ((.int .i64 0, Lt 11) :: ids [0, 1, 4, 5, 6, 8, 10, 12]) [] [], 64, [], lS lus, lX o 6, lE o ljs⟩
noncomputable def ljC (o : Option Nat) : CE := ⟨.loop ljB, traL ((.int .i64 0, Lt 8) :: ids [0, 1, 4, 5, 6, 12]) [] [], 64, [], lS ljs, lX o 4, lE o lvs⟩
noncomputable def lvC (o : Option Nat) : CE := ⟨.loop lvB, traL ((.int .i64 0, Lt 4) :: ids [0, 1, 12]) [] [], 64, [], lS lvs, lX o 2, lE o lcs⟩
noncomputable def lcC (o : Option Nat) : CE := ⟨.loop lcB, traL ((.int .i64 0, Lt 1) :: ids [0]) [] [], 64, [], lS lcs, lX o 0, lE o []⟩
def lkO (x r : Nat) : List OE := [nilE (Lt 0), faE 42 3 (Lt 0) (Lt 2), ldE 40 (Lt 2) (Lt 3), lkE 40 (Lt 3) (Lt 1) (Lt x) (Lt r)]
-- the loop over earlier values
def luO : List OE := binE .lss (Lt 11) (Lt 4) (.bool true) :: binE .add (Lt 11) (.int .i64 (1 : Nat)) (Lt 15) :: lkO 11 14
def luW (b : Bool) : List PE := [(18, patP [([Lt 14, Lt 10], .bool b)])]
theorem lu_run1 : ComG luO [] [] (luW true) 60 luB (lS lus) .ret (traL [] [] []) 64 [] (lE (some 5) ljs) := by show _ = _; kernel_rfl
theorem lu_run2 : ComG luO [] [] (luW false) 60 luB (lS lus) .normal (traL ((Lt 15, Lt 11) :: ids [0, 1, 4, 5, 6, 8, 10, 12]) [] []) 64 [] (lS lus) := by show _ = _; kernel_rfl
theorem lu_run3 : ComG [binE .lss (Lt 11) (Lt 4) (.bool false)] [] [] [] 60 luB (lS lus) (.exit 6) (traL (ids [0, 1, 4, 5, 6, 8, 12]) [] []) 64 [] (lE none ljs) := by show _ = _; kernel_rfl
-- the loop over a value's words
def ljO : List OE := [binE .lss (Lt 8) (Lt 6) (.bool true), iaE 37 (Lt 5) (Lt 8) (Lt 9), ldE 9 (Lt 9) (Lt 10), binE .add (Lt 8) (.int .i64 (1 : Nat)) (Lt 13)]
def ljW (b : Bool) : List PE := [(17, patP [([Lt 10], .bool b)])]
theorem lj_run1 : ComG ljO [] [] (ljW false) 60 ljB (lS ljs) .ret (traL [] [] []) 64 [] (lE (some 10) lvs) := by show _ = _; kernel_rfl
theorem lj_run2 : ComG ljO [] [luC (some 5)] (ljW true) 60 ljB (lS ljs) .ret (traL [] [] []) 64 [] (lE (some 5) lvs) := by show _ = _; kernel_rfl
theorem lj_run3 : ComG ljO [] [luC none] (ljW true) 60 ljB (lS ljs) .normal (traL ((Lt 13, Lt 8) :: ids [0, 1, 4, 5, 6, 12]) [] []) 64 [] (lS ljs) := by show _ = _; kernel_rfl
theorem lj_run4 : ComG [binE .lss (Lt 8) (Lt 6) (.bool false)] [] [] [] 60 ljB (lS ljs) (.exit 4) (traL (ids [0, 1, 4, 12]) [] []) 64 [] (lE none lvs) := by show _ = _; kernel_rfl
-- the loop over a category's values
def lvO (z x y q : Bool) : List OE := binE .lss (Lt 4) (Lt 12) (.bool true) :: lenE 37 (Lt 5) (Lt 6) :: binE .eql (Lt 6) (.int .i64 (0 : Nat)) (.bool z) :: binE .eql (Lt 1) (.int .i64 (2 : Nat)) (.bool x) :: binE .eql (Lt 1) (.int .i64 (12 : Nat)) (.bool y) :: binE .lss (Lt 6) (.int .i64 (3 : Nat)) (.bool q) :: binE .add (Lt 4) (.int .i64 (1 : Nat)) (Lt 7) :: lkO 4 5
theorem lv_run1 (x y q : Bool) : ComG (lvO true x y q) [] [] [] 60 lvB (lS lvs) .ret (traL [] [] []) 64 [] (lE (some 13) lcs) := by
  cases x <;> cases y <;> cases q <;> (show _ = _; kernel_rfl)
theorem lv_run2 (x y q : Bool) (h : ((x || y) && q) = true) : ComG (lvO false x y q) [] [] [] 60 lvB (lS lvs) .ret (traL [] [] []) 64 [] (lE (some 2) lcs) := by
  cases x <;> cases y <;> cases q <;> first | (cases h; done) | (show _ = _; kernel_rfl)
theorem lv_run3 (x y q : Bool) (e : Nat) (he : e = 10 ∨ e = 5) (h : ((x || y) && q) = false) : ComG (lvO false x y q) [] [ljC (some e)] [] 60 lvB (lS lvs) .ret (traL [] [] []) 64 [] (lE (some e) lcs) := by
  rcases he with rfl | rfl <;> cases x <;> cases y <;> cases q <;> first | (cases h; done) | (show _ = _; kernel_rfl)
theorem lv_run4 (x y q : Bool) (h : ((x || y) && q) = false) : ComG (lvO false x y q) [] [ljC none] [] 60 lvB (lS lvs) .normal (traL ((Lt 7, Lt 4) :: ids [0, 1, 12]) [] []) 64 [] (lS lvs) := by
  cases x <;> cases y <;> cases q <;> first | (cases h; done) | (show _ = _; kernel_rfl)
theorem lv_run5 : ComG [binE .lss (Lt 4) (Lt 12) (.bool false)] [] [] [] 60 lvB (lS lvs) (.exit 2) (traL (ids [0, 1]) [] []) 64 [] (lE none lcs) := by show _ = _; kernel_rfl
-- the loop over the categories
def lcO : List OE := [binE .lss (Lt 1) (.int .i64 (19 : Nat)) (.bool true), binE .add (Lt 1) (.int .i64 (1 : Nat)) (Lt 16)]
def lcW : List PE := [(14, patP [([Lt 1], Lt 12)])]
theorem lc_run1 (e : Nat) (h : e = 13 ∨ e = 2 ∨ e = 10 ∨ e = 5) : ComG lcO [] [lvC (some e)] lcW 60 lcB (lS lcs) .ret (traL [] [] []) 64 [] (lE (some e) []) := by
  rcases h with rfl | rfl | rfl | rfl <;> (show _ = _; kernel_rfl)
theorem lc_run2 : ComG lcO [] [lvC none] lcW 60 lcB (lS lcs) .normal (traL ((Lt 16, Lt 1) :: ids [0]) [] []) 64 [] (lS lcs) := by show _ = _; kernel_rfl
theorem lc_run3 : ComG [binE .lss (Lt 1) (.int .i64 (19 : Nat)) (.bool false)] [] [] [] 60 lcB (lS lcs) (.exit 0) (traL [] [] []) 64 [] (lE none []) := by show _ = _; kernel_rfl
theorem lk_run (a b c d : Bool) (o : Option Nat) (h : o = none ∨ o = some 13 ∨ o = some 2 ∨ o = some 10 ∨ o = some 5) : SymG (kkO .gtr 2 a b c d) [] [lcC o] [] 60 9 [Lt 0] (.int .i64 (bif a || b || c || d then (6 : Nat) else errN o : Nat)) := by
  rcases h with rfl | rfl | rfl | rfl | rfl <;> cases a <;> cases b <;> cases c <;> cases d <;> (delta SymG; show _ = _; kernel_rfl)
end Go.Proofs.YtjfchpfbpmediaaGreatDoor
/-
  table: the law's Check: its contract, the same as the program's.
-/
namespace Go.Proofs.YtjfchpfbpmediaaGreatDoor
open Go Go.RowKit
namespace Tbl
/-- is the word an earlier value's, from u on, k of them? -/
def dupFrom (tab : Nat → List ByteArray) (s : ByteArray) : Nat → Nat → Option Nat
  | _, 0 => none
  | u, k + 1 => bif (tab u).any fun t => decide (t = s) then some 5 else dupFrom tab s (u + 1) k
theorem dupFrom_eq {tab : Nat → List ByteArray} {s : ByteArray} : ∀ (k u : Nat), dupFrom tab s u k = bif (List.range' u k).any fun u => (tab u).any fun t => decide (t = s) then some 5 else none
  | 0, u => rfl
  | k + 1, u => by
    rw [dupFrom, List.range'_succ, List.any_cons, dupFrom_eq k (u + 1)]
    cases (tab u).any fun t => decide (t = s) <;> rfl
theorem dup_from {tab : Nat → List ByteArray} {s : ByteArray} {v : Nat} : dupFrom tab s 0 v = bif dup tab v s then some 5 else none := by
  rw [dupFrom_eq]
  unfold dup
  rw [List.range_eq_range']
end Tbl
section
variable {w : World} {b mb clk : Nat} {kind style : Int} {es : List MapEntry} {tab : Nat → Nat → List ByteArray}
theorem TabIn.texts (h : TabIn w b kind style mb clk es tab) (c v : Nat) : TextsIn w (slOf es c v) (tab c v) := by
  obtain ⟨q, A, cp, h1, h2, h3, h4, h5⟩ := h.sl c v
  exact ⟨h4, A, cp, h3, h5⟩
abbrev lLt (b mb : Nat) (es : List MapEntry) (tab : Nat → Nat → List ByteArray) (c v j u : Nat) : Ltr :=
  ltrL [.pointer (some ⟨b, 0, none⟩), .int .i64 c, .pointer (some ⟨b, 3, none⟩), .map (some mb), .int .i64 v, slOf es c v, .int .i64 (tab c v).length, .int .i64 (v + 1 : Nat), .int .i64 j, .pointer (some (elOf (slOf es c v) j)), .string ((tab c v).getD j ⟨#[]⟩), .int .i64 u, .int .i64 (manyI c), .int .i64 (j + 1 : Nat), slOf es c u, .int .i64 (u + 1 : Nat), .int .i64 (c + 1 : Nat)]
theorem lkO_ok (hT : TabIn w b kind style mb clk es tab) (c x : Nat) (i r : Nat) (L : Ltr) (h0 : L.v 0 = some (.pointer (some ⟨b, 0, none⟩))) (h1 : L.v 1 = some (.int .i64 c)) (h2 : L.v 2 = some (.pointer (some ⟨b, 3, none⟩))) (h3 : L.v 3 = some (.map (some mb))) (hi : L.v i = some (.int .i64 x)) (hr : L.v r = some (slOf es c x)) : ∀ e ∈ lkO i r, @OEOkX L Tryz.prog (kep w) e := by
  obtain ⟨q, A, cp, hq1, hq2, hS, hlen, hel⟩ := hT.sl c x
  exact ac (@nil_ok L 0 _ h0).x (ac (@fa_of L 0 2 b _ 3 3 (fa_tab3 b) h0 h2).x
    (ac (@ld_ok L (kep w) _ 2 _ _ _ (by kernel_rfl) h2 (@to_ltr L 3 _ h3 rfl) fun w2 k => cell_keep hT.m k)
      (ac (@lk_ok L (kep w) 3 r mb clk _ _ _ _ _ es c x q (.slice none 0 0) Tryz.underlying40 (by kernel_rfl) (by kernel_rfl) h3 (@is_ltr L 1 _ h1) (@is_ltr L i _ hi) hq1 (by rw [hq2]; exact hr) (by rw [hq2, hS]; rfl) fun w2 k => (k mb (Array.getElem?_eq_some_iff.1 hT.o).1).trans hT.o) an)))
theorem lu_ce (hT : TabIn w b kind style mb clk es tab) (c v j : Nat) (hv : v ≤ 1000) {o : Option Nat} (ho : Tbl.dupFrom (tab c) ((tab c v).getD j ⟨#[]⟩) 0 v = o) : @CEOk (lLt b mb es tab c v j 0) Tryz.prog 64 (kep w) 64 (luC o) := by
  refine @ce_of Tryz.prog 64 (kep w) 64 (lLt b mb es tab c v j 0) Nat (fun u => lLt b mb es tab c v j u) (fun _ => lS lus) (fun u => v - u) (fun u => ∃ r, u + r = v ∧ Tbl.dupFrom (tab c) ((tab c v).getD j ⟨#[]⟩) u r = o) (luC o) luB rfl ?_ 0 ⟨v, Nat.zero_add v, ho⟩ rfl (traL_ok (ac (fl_go rfl rfl rfl) (ids_ok ?_)) an an) an
  · rintro u ⟨r, hr, hd⟩ ro k E a w' h
    let L : Ltr := lLt b mb es tab c v j u
    cases r with
    | succ r =>
      have hlt : u < v := by omega
      rw [Tbl.dupFrom] at hd
      have hO : ∀ e ∈ luO, @OEOkX L Tryz.prog (kep w) e := ac (@bll L _ _ _ _ _ _ _ rfl rfl (xk_lt (decide_eq_true hlt)) (@to_flat L _ rfl)).x (ac (@bl L _ _ _ _ _ _ rfl rfl (x_add (n := u) (m := 1) (by omega)) (@to_ltr L 15 _ rfl rfl)).x (lkO_ok hT c u 11 14 L rfl rfl rfl rfl rfl rfl))
      have hW : ∀ x, ((tab c u).any fun t => decide (t = (tab c v).getD j ⟨#[]⟩)) = x → ∀ e ∈ luW x, @PEOk L Tryz.prog (kep w) 64 e := fun x hx =>
        ac (@p2 L _ _ _ 14 10 _ _ _ rfl rfl rfl fun w2 k => by rw [← hx]; exact contains_any ((hT.texts c u).keep k) _) an
      generalize hq : ((tab c u).any fun t => decide (t = (tab c v).getD j ⟨#[]⟩)) = q at hd hW
      cases q with
      | true =>
        obtain rfl : some 5 = o := hd
        exact r_out (by intro h; cases h) (toldG L hO an an (hW true rfl) (traL_ok an an an) an lu_run1 h)
      | false =>
        refine r_on (u + 1) (toldG L hO an an (hW false rfl) (traL_ok (ac ?_ (ids_ok ?_)) an an) an lu_run2 h) ⟨r, by omega, hd⟩ (by show v - (u + 1) < v - u; omega)
        · exact lt_go rfl
        · exact ac rfl (ac rfl (ac rfl (ac rfl (ac rfl (ac rfl (ac rfl (ac rfl an)))))))
    | zero =>
      have hlt : ¬ u < v := by omega
      obtain rfl : none = o := hd
      refine r_out (by intro h; cases h) (toldG L (ac (@bll L _ _ _ _ _ _ _ rfl rfl (xk_lt (decide_eq_false hlt)) (@to_flat L _ rfl)).x an) an an an (traL_ok (ids_ok ?_) an an) an lu_run3 h)
      exact ac rfl (ac rfl (ac rfl (ac rfl (ac rfl (ac rfl (ac rfl an))))))
  · exact ac rfl (ac rfl (ac rfl (ac rfl (ac rfl (ac rfl (ac rfl (ac rfl an)))))))
theorem lj_ce (hT : TabIn w b kind style mb clk es tab) (c v : Nat) (hv : v ≤ 1000) {o : Option Nat} (ho : Tbl.wordsE (tab c) v (tab c v) = o) : @CEOk (lLt b mb es tab c v 0 0) Tryz.prog 64 (kep w) 64 (ljC o) := by
  obtain ⟨hlen, A, cp, hS, hel⟩ := hT.texts c v
  refine @ce_of Tryz.prog 64 (kep w) 64 (lLt b mb es tab c v 0 0) Nat (fun j => lLt b mb es tab c v j 0) (fun _ => lS ljs) (fun j => (tab c v).length - j) (fun j => j ≤ (tab c v).length ∧ Tbl.wordsE (tab c) v ((tab c v).drop j) = o) (ljC o) ljB rfl ?_ 0 ⟨Nat.zero_le _, by simpa using ho⟩ rfl (traL_ok (ac (fl_go rfl rfl rfl) (ids_ok ?_)) an an) an
  · rintro j ⟨hj, hd⟩ ro k E a w' h
    let L : Ltr := lLt b mb es tab c v j 0
    by_cases hlt : j < (tab c v).length
    · have hgd : (tab c v).getD j ⟨#[]⟩ = (tab c v)[j] := by simp [hlt]
      obtain ⟨ad, hA, he, hcell⟩ := hel j (tab c v)[j] (by simp [hlt])
      have hz : (tab c v)[j].size ≤ 1000000 := hT.z c v _ (List.getElem_mem hlt)
      rw [List.drop_eq_getElem_cons hlt, Tbl.wordsE] at hd
      have h5 : L.v 5 = some (.slice (some ad) (tab c v).length cp) := by show some (slOf es c v) = _; rw [hS, hA]
      have h9 : L.v 9 = some (.pointer (some (ad.add j))) := by show some (Value.pointer (some (elOf (slOf es c v) j))) = _; rw [he]
      have h10 : L.v 10 = some (.string (tab c v)[j]) := by show some (Value.string ((tab c v).getD j ⟨#[]⟩)) = _; rw [hgd]
      have hO : ∀ e ∈ ljO, @OEOkX L Tryz.prog (kep w) e :=
        ac (@bll L _ _ _ _ _ _ _ rfl rfl (xk_lt (decide_eq_true hlt)) (@to_flat L _ rfl)).x (ac (@a_el L 5 9 8 _ _ _ _ h5 rfl h9 hlt).x (ac (@l_el L (kep w) 9 10 _ _ h9 h10 fun w2 k => cell_keep hcell k)
          (ac (@bl L _ _ _ _ _ _ rfl rfl (x_add (n := j) (m := 1) (by omega)) (@to_ltr L 13 _ rfl rfl)).x an)))
      have hW : ∀ r, Tbl.isW (tab c v)[j].data.toList = r → ∀ e ∈ ljW r, @PEOk L Tryz.prog (kep w) 64 e := fun r hr =>
        ac (@p1 L _ _ _ _ _ _ h10 rfl fun w2 _ => (lword_any (tab c v)[j] (by omega) w2).mono fun e w3 p => ⟨by rw [p.1, hr], p.2⟩) an
      have hcut := fun o ho => lu_ce hT c v j hv (o := o) ho
      rw [hgd, Tbl.dup_from] at hcut
      cases hw : Tbl.isW (tab c v)[j].data.toList with
      | false =>
        rw [hw] at hd
        obtain rfl : some 10 = o := hd
        exact r_out (by intro h; cases h) (toldG L hO an an (hW false hw) (traL_ok an an an) an lj_run1 h)
      | true =>
        rw [hw] at hd
        cases hdd : Tbl.dup (tab c) v (tab c v)[j] with
        | true =>
          rw [hdd] at hd hcut
          obtain rfl : some 5 = o := hd
          exact r_out (by intro h; cases h) (toldG L hO an (ac (hcut (some 5) rfl) an) (hW true hw) (traL_ok an an an) an lj_run2 h)
        | false =>
          rw [hdd] at hd hcut
          refine r_on (j + 1) (toldG L hO an (ac (hcut none rfl) an) (hW true hw) (traL_ok (ac ?_ (ids_ok ?_)) an an) an lj_run3 h) ⟨hlt, hd⟩ (by show (tab c v).length - (j + 1) < (tab c v).length - j; omega)
          · exact lt_go rfl
          · exact ac rfl (ac rfl (ac rfl (ac rfl (ac rfl (ac rfl an)))))
    · rw [List.drop_eq_nil_of_le (by omega)] at hd
      obtain rfl : none = o := hd
      refine r_out (by intro h; cases h) (toldG L (ac (@bll L _ _ _ _ _ _ _ rfl rfl (xk_lt (decide_eq_false hlt)) (@to_flat L _ rfl)).x an) an an an (traL_ok (ids_ok ?_) an an) an lj_run4 h)
      exact ac rfl (ac rfl (ac rfl (ac rfl an)))
  · exact ac rfl (ac rfl (ac rfl (ac rfl (ac rfl (ac rfl an)))))
theorem many_le (c : Nat) : manyI c ≤ 1000 := by
  unfold manyI
  split
  · unfold Tbl.many
    split
    · omega
    · split
      · omega
      · split
        · omega
        · split <;> omega
  · omega
theorem lv_ce (hT : TabIn w b kind style mb clk es tab) (c : Nat) {o : Option Nat} (ho : Tbl.catOf tab c = o) : @CEOk (lLt b mb es tab c 0 0 0) Tryz.prog 64 (kep w) 64 (lvC o) := by
  have hm := many_le c
  refine @ce_of Tryz.prog 64 (kep w) 64 (lLt b mb es tab c 0 0 0) Nat (fun v => lLt b mb es tab c v 0 0) (fun _ => lS lvs) (fun v => manyI c - v) (fun v => ∃ r, v + r = manyI c ∧ Tbl.catE (tab c) (Tbl.cnt c) v r = o) (lvC o) lvB rfl ?_ 0 ⟨manyI c, Nat.zero_add _, ho⟩ rfl (traL_ok (ac (fl_go rfl rfl rfl) (ids_ok ?_)) an an) an
  · rintro v ⟨r, hr, hd⟩ ro k E a w' h
    let L : Ltr := lLt b mb es tab c v 0 0
    cases r with
    | succ r =>
      have hlt : v < manyI c := by omega
      rw [Tbl.catE] at hd
      obtain ⟨hlen, A, cp, hS, hel⟩ := hT.texts c v
      have h5 : L.v 5 = some (.slice A (tab c v).length cp) := by show some (slOf es c v) = _; rw [hS]
      have hO : ∀ z, decide ((tab c v).length = 0) = z → ∀ e ∈ lvO z (decide (c = 2)) (decide (c = 12)) (decide ((tab c v).length < 3)), @OEOkX L Tryz.prog (kep w) e := fun z hz =>
        ac (@bll L _ _ _ _ _ _ _ rfl rfl (xk_lt (decide_eq_true hlt)) (@to_flat L _ rfl)).x (ac (@l_sl L 5 6 _ _ _ h5 rfl).x (ac (@bl L _ _ _ _ _ _ rfl rfl (xk_eq hz) (@to_flat L _ rfl)).x (ac (@bl L _ _ _ _ _ _ rfl rfl (xk_eq rfl) (@to_flat L _ rfl)).x
          (ac (@bl L _ _ _ _ _ _ rfl rfl (xk_eq rfl) (@to_flat L _ rfl)).x (ac (@bl L _ _ _ _ _ _ rfl rfl (xk_lt rfl) (@to_flat L _ rfl)).x (ac (@bl L _ _ _ _ _ _ rfl rfl (x_add (n := v) (m := 1) (by omega)) (@to_ltr L 7 _ rfl rfl)).x (lkO_ok hT c v 4 5 L rfl rfl rfl rfl rfl rfl)))))))
      unfold Tbl.numE at hd
      cases hz : decide ((tab c v).length = 0) with
      | true =>
        rw [hz] at hd
        obtain rfl : some 13 = o := hd
        exact r_out (by intro h; cases h) (toldG L (hO true hz) an an an (traL_ok an an an) an (lv_run1 _ _ _) h)
      | false =>
        rw [hz] at hd
        have hO := hO false hz
        unfold Tbl.cnt at hd
        cases hq : ((decide (c = 2) || decide (c = 12)) && decide ((tab c v).length < 3)) with
        | true =>
          rw [hq] at hd
          obtain rfl : some 2 = o := hd
          exact r_out (by intro h; cases h) (toldG L hO an an an (traL_ok an an an) an (lv_run2 _ _ _ hq) h)
        | false =>
          rw [hq] at hd
          dsimp only [cond_false] at hd
          cases hw : Tbl.wordsE (tab c) v (tab c v) with
          | some e =>
            rw [hw] at hd
            obtain rfl : some e = o := hd
            exact r_out (by intro h; cases h) (toldG L hO an (ac (lj_ce hT c v (by omega) hw) an) an (traL_ok an an an) an (lv_run3 _ _ _ e (wordsE_is hw) hq) h)
          | none =>
            rw [hw] at hd
            refine r_on (v + 1) (toldG L hO an (ac (lj_ce hT c v (by omega) hw) an) an (traL_ok (ac ?_ (ids_ok ?_)) an an) an (lv_run4 _ _ _ hq) h) ⟨r, by omega, hd⟩ (by show manyI c - (v + 1) < manyI c - v; omega)
            · exact lt_go rfl
            · exact ac rfl (ac rfl (ac rfl an))
    | zero =>
      have hlt : ¬ v < manyI c := by omega
      obtain rfl : none = o := hd
      refine r_out (by intro h; cases h) (toldG L (ac (@bll L _ _ _ _ _ _ _ rfl rfl (xk_lt (decide_eq_false hlt)) (@to_flat L _ rfl)).x an) an an an (traL_ok (ids_ok ?_) an an) an lv_run5 h)
      exact ac rfl (ac rfl an)
  · exact ac rfl (ac rfl (ac rfl an))
theorem lc_ce (hT : TabIn w b kind style mb clk es tab) {o : Option Nat} (ho : Tbl.chkFrom tab 0 19 = o) (Lo : Ltr) (l0 : Lo.v 0 = some (.pointer (some ⟨b, 0, none⟩))) : @CEOk Lo Tryz.prog 64 (kep w) 64 (lcC o) := by
  refine @ce_of Tryz.prog 64 (kep w) 64 Lo Nat (fun c => lLt b mb es tab c 0 0 0) (fun _ => lS lcs) (fun c => 19 - c) (fun c => ∃ r, c + r = 19 ∧ Tbl.chkFrom tab c r = o) (lcC o) lcB rfl ?_ 0 ⟨19, rfl, ho⟩ rfl (traL_ok (ac (fl_go rfl rfl rfl) (ids_ok (ac l0 an))) an an) an
  rintro c ⟨r, hr, hd⟩ ro k E a w' h
  let L : Ltr := lLt b mb es tab c 0 0 0
  cases r with
  | succ r =>
    have hlt : c < 19 := by omega
    rw [Tbl.chkFrom] at hd
    have hO : ∀ e ∈ lcO, @OEOkX L Tryz.prog (kep w) e := ac (@bl L _ _ _ _ _ _ rfl rfl (xk_lt (decide_eq_true hlt)) (@to_flat L _ rfl)).x (ac (@bl L _ _ _ _ _ _ rfl rfl (x_add (n := c) (m := 1) (by omega)) (@to_ltr L 16 _ rfl rfl)).x an)
    have hW : ∀ e ∈ lcW, @PEOk L Tryz.prog (kep w) 64 e := ac (@p1L L _ _ _ _ _ _ _ rfl rfl rfl fun w' _ => lmany_any c w') an
    have hcut := fun o ho => lv_ce hT c (o := o) ho
    generalize hn : Tbl.catOf tab c = oc at hd hcut
    cases oc with
    | some e =>
      obtain rfl : some e = o := hd
      exact r_out (by intro h; cases h) (toldG L hO an (ac (hcut (some e) rfl) an) hW (traL_ok an an an) an (lc_run1 e (catE_is hn)) h)
    | none =>
      refine r_on (c + 1) (toldG L hO an (ac (hcut none rfl) an) hW (traL_ok (ac ?_ (ids_ok ?_)) an an) an lc_run2 h) ⟨r, by omega, hd⟩ (by show 19 - (c + 1) < 19 - c; omega)
      · exact lt_go rfl
      · exact ac rfl an
  | zero =>
    have hlt : ¬ c < 19 := by omega
    obtain rfl : none = o := hd
    exact r_out (by intro h; cases h) (toldG L (ac (@bl L _ _ _ _ _ _ rfl rfl (xk_lt (decide_eq_false hlt)) (@to_flat L _ rfl)).x an) an an an (traL_ok an an an) an lc_run3 h)
theorem lcheck_tab (hT : TabIn w b kind style mb clk es tab) : Calls Tryz.prog 9 #[.pointer (some ⟨b, 0, none⟩)] w fun e w' => e = .returned (.int .i64 (Tbl.chkV kind style tab : Nat)) ∧ Below w.heap.size w w' := by
  let L : Ltr := kcLt b 0 kind style
  have hce := fun o ho => lc_ce hT (o := o) ho L rfl
  have hcs : Tbl.chkFrom tab 0 19 = none ∨ Tbl.chkFrom tab 0 19 = some 13 ∨ Tbl.chkFrom tab 0 19 = some 2 ∨ Tbl.chkFrom tab 0 19 = some 10 ∨ Tbl.chkFrom tab 0 19 = some 5 := err_cases fun e h => chkFrom_is 19 0 h
  have h3 : ∀ x : Int, decide (2 < x) = decide (3 ≤ x) := fun x => by rw [decide_eq_decide]; omega
  unfold Tbl.chkV Tbl.badK
  generalize ho : Tbl.chkFrom tab 0 19 = o at hce hcs ⊢
  rw [← h3, ← h3]
  exact symGF L 60 (kk_ok hT (xi_gt rfl) (xi_gt rfl) L rfl rfl rfl rfl rfl) an (ac (hce o rfl) an) an (.cons (.ltr rfl rfl) .nil) rfl (lk_run _ _ _ _ o hcs)
end
end Go.Proofs.YtjfchpfbpmediaaGreatDoor
