/-
  table: the program's Check: its contract.
-/
import Derived.Test.YtjfchpfbpmediaaGreatDoorTx6
namespace Go.Proofs.YtjfchpfbpmediaaGreatDoor
open Go Go.RowKit
namespace Tbl
def catOf (tab : Nat → Nat → List ByteArray) (c : Nat) : Option Nat := catE (tab c) (cnt c) 0 (manyI c)
def orElse (a b : Option Nat) : Option Nat :=
  match a with
  | some e => some e
  | none => b
/-- the first fault of the categories from c on, k of them -/
def chkFrom (tab : Nat → Nat → List ByteArray) : Nat → Nat → Option Nat
  | _, 0 => none
  | c, k + 1 => orElse (catOf tab c) (chkFrom tab (c + 1) k)
def badK (kind style : Int) : Bool := decide (kind < 0) || decide (3 ≤ kind) || decide (style < 0) || decide (3 ≤ style)
/-- which fault a table has first -/
def chkV (kind style : Int) (tab : Nat → Nat → List ByteArray) : Nat := bif badK kind style then 6 else errN (chkFrom tab 0 19)
end Tbl
theorem chkFrom_is {f : Nat → Nat → List ByteArray} {e : Nat} : ∀ (k c : Nat), Tbl.chkFrom f c k = some e → e = 13 ∨ e = 2 ∨ e = 10 ∨ e = 5 := by
  intro k
  induction k with
  | zero => intro c h; cases h
  | succ k ih =>
    intro c h
    rw [Tbl.chkFrom] at h
    generalize h1 : Tbl.catOf f c = o at h
    cases o with
    | some x => obtain rfl := Option.some.inj h; exact catE_is h1
    | none => exact ih (c + 1) h
theorem err_cases {o : Option Nat} (h : ∀ e, o = some e → e = 13 ∨ e = 2 ∨ e = 10 ∨ e = 5) : o = none ∨ o = some 13 ∨ o = some 2 ∨ o = some 10 ∨ o = some 5 := by
  cases o with
  | none => exact .inl rfl
  | some e =>
    rcases h e rfl with rfl | rfl | rfl | rfl
    · exact .inr (.inl rfl)
    · exact .inr (.inr (.inl rfl))
    · exact .inr (.inr (.inr (.inl rfl)))
    · exact .inr (.inr (.inr (.inr rfl)))
theorem xi_lt {k : IntKind} {a b : Int} {r : Bool} (h : decide (a < b) = r) : binX .lss (.int k a) (.int k b) = some (.bool r) := by
  subst h
  show (bif decide (k = k) then some (Value.bool (decide (a < b))) else none) = _
  rw [decide_eq_true rfl]
  rfl
theorem xi_ge {k : IntKind} {a b : Int} {r : Bool} (h : decide (b ≤ a) = r) : binX .geq (.int k a) (.int k b) = some (.bool r) := by
  subst h
  show (bif decide (k = k) then some (Value.bool (decide (a ≥ b))) else none) = _
  rw [decide_eq_true rfl]
  rfl
noncomputable def kcB : Code := inLoop (loopOf Tryz.prog 8 0)
def kcS : St := ⟨fr 41 [(0, Lt 0), (31, Lt 5)], ⟨64, []⟩, []⟩
def kcX (o : Option Nat) : Exit := match o with
  | none => .exit 0
  | some _ => .ret
def kcE (o : Option Nat) : St := match o with
  | none => ⟨fr 41 [], ⟨64, []⟩, []⟩
  | some e => ⟨fr 41 [(2, .int .i64 e)], ⟨64, []⟩, []⟩
noncomputable def kcC (o : Option Nat) : CE := ⟨.loop kcB, traL [(.int .i64 0, Lt 5), (Lt 0, Lt 0)] [] [], 64, [], kcS, kcX o, kcE o⟩
def kcW (e : Nat) : List PE := [(16, patP [([Lt 0, Lt 5], .int .i64 e)])]
theorem kc_run1 (e : Nat) (h : e = 13 ∨ e = 2 ∨ e = 10 ∨ e = 5) : ComG [binE .lss (Lt 5) (.int .i64 (19 : Nat)) (.bool true)] [] [] (kcW e) 60 kcB kcS .ret (traL [] [] []) 64 [] (kcE (some e)) := by
  rcases h with rfl | rfl | rfl | rfl <;> (show _ = _; kernel_rfl)
theorem kc_run2 : ComG [binE .lss (Lt 5) (.int .i64 (19 : Nat)) (.bool true), binE .add (Lt 5) (.int .i64 (1 : Nat)) (Lt 7)] [] [] (kcW 0) 60 kcB kcS .normal (traL [(Lt 7, Lt 5), (Lt 0, Lt 0)] [] []) 64 [] kcS := by show _ = _; kernel_rfl
theorem kc_run3 : ComG [binE .lss (Lt 5) (.int .i64 (19 : Nat)) (.bool false)] [] [] [] 60 kcB kcS (.exit 0) (traL [] [] []) 64 [] (kcE none) := by show _ = _; kernel_rfl
/-- the fields, as both look at them -/
def kkO (op : BinOp) (n : Int) (a b c d : Bool) : List OE := [nilE (Lt 0), faE 42 1 (Lt 0) (Lt 1), ldE 38 (Lt 1) (Lt 2), binE .lss (Lt 2) (.int .i64 0) (.bool a), binE op (Lt 2) (.int .i64 n) (.bool b), faE 42 2 (Lt 0) (Lt 3), ldE 39 (Lt 3) (Lt 4), binE .lss (Lt 4) (.int .i64 0) (.bool c), binE op (Lt 4) (.int .i64 n) (.bool d)]
theorem kc_run4 (a b c d : Bool) (o : Option Nat) (h : o = none ∨ o = some 13 ∨ o = some 2 ∨ o = some 10 ∨ o = some 5) : SymG (kkO .geq 3 a b c d) [] [kcC o] [] 60 8 [Lt 0] (.int .i64 (bif a || b || c || d then (6 : Nat) else errN o : Nat)) := by
  rcases h with rfl | rfl | rfl | rfl | rfl <;> cases a <;> cases b <;> cases c <;> cases d <;> (delta SymG; show _ = _; kernel_rfl)
section
variable {w : World} {b mb clk : Nat} {kind style : Int} {es : List MapEntry} {tab : Nat → Nat → List ByteArray}
abbrev kcLt (b c : Nat) (kind style : Int) : Ltr := ltrL [.pointer (some ⟨b, 0, none⟩), .pointer (some ⟨b, 1, none⟩), .int .i64 kind, .pointer (some ⟨b, 2, none⟩), .int .i64 style, .int .i64 c, .int .i64 0, .int .i64 (c + 1 : Nat)]
theorem kc_ce (hT : TabIn w b kind style mb clk es tab) {o : Option Nat} (ho : Tbl.chkFrom tab 0 19 = o) : @CEOk (kcLt b 0 kind style) Tryz.prog 64 (kep w) 64 (kcC o) := by
  refine @ce_of Tryz.prog 64 (kep w) 64 (kcLt b 0 kind style) Nat (fun c => kcLt b c kind style) (fun _ => kcS) (fun c => 19 - c) (fun c => ∃ r, c + r = 19 ∧ Tbl.chkFrom tab c r = o) (kcC o) kcB rfl ?_ 0 ⟨19, rfl, ho⟩ rfl (traL_ok (ac (fl_go rfl rfl rfl) (ac (lt_go rfl) an)) an an) an
  rintro c ⟨r, hr, hd⟩ ro k E a w' h
  let L : Ltr := kcLt b c kind style
  cases r with
  | succ r =>
    have hlt : c < 19 := by omega
    rw [Tbl.chkFrom] at hd
    have hP : ∀ x, errN (Tbl.catOf tab c) = x → ∀ e ∈ kcW x, @PEOk L Tryz.prog (kep w) 64 e := fun x hx =>
      ac (@p2 L _ _ _ 0 5 _ _ _ rfl rfl rfl fun w2 k => by rw [← hx]; exact ccat_any (hT.keep k) c) an
    have hlss : @OEOkX L Tryz.prog (kep w) (binE .lss (Lt 5) (.int .i64 (19 : Nat)) (.bool true)) := (@bl L _ _ _ _ _ _ rfl rfl (xk_lt (decide_eq_true hlt)) (@to_flat L _ rfl)).x
    generalize hn : Tbl.catOf tab c = oc at hd hP
    cases oc with
    | some e =>
      obtain rfl : some e = o := hd
      exact r_out (by intro h; cases h) (toldG L (ac hlss an) an an (hP e rfl) (traL_ok an an an) an (kc_run1 e (catE_is hn)) h)
    | none =>
      refine r_on (c + 1) (toldG L (ac hlss (ac (@bl L _ _ _ _ _ _ rfl rfl (x_add (n := c) (m := 1) (by omega)) (@to_ltr L 7 _ rfl rfl)).x an)) an an (hP 0 rfl) (traL_ok ?_ an an) an kc_run2 h) ⟨r, by omega, hd⟩ (by show 19 - (c + 1) < 19 - c; omega)
      exact ac (lt_go rfl) (ac (lt_go rfl) an)
  | zero =>
    have hlt : ¬ c < 19 := by omega
    obtain rfl : none = o := hd
    exact r_out (by intro h; cases h) (toldG L (ac (@bl L _ _ _ _ _ _ rfl rfl (xk_lt (decide_eq_false hlt)) (@to_flat L _ rfl)).x an) an an an (traL_ok an an an) an kc_run3 h)
theorem kk_ok (hT : TabIn w b kind style mb clk es tab) {op : BinOp} {n : Int} {x y : Bool} (hx : binX op (.int .i64 kind) (.int .i64 n) = some (.bool x)) (hy : binX op (.int .i64 style) (.int .i64 n) = some (.bool y)) (L : Ltr) (h0 : L.v 0 = some (.pointer (some ⟨b, 0, none⟩))) (h1 : L.v 1 = some (.pointer (some ⟨b, 1, none⟩))) (h2 : L.v 2 = some (.int .i64 kind)) (h3 : L.v 3 = some (.pointer (some ⟨b, 2, none⟩))) (h4 : L.v 4 = some (.int .i64 style)) :
    ∀ e ∈ kkO op n (decide (kind < 0)) x (decide (style < 0)) y, @OEOkX L Tryz.prog (kep w) e :=
  ac (@nil_ok L 0 _ h0).x (ac (@fa_of L 0 1 b _ 1 1 (fa_tab1 b) h0 h1).x (ac (@ld_ok L (kep w) _ 1 _ _ _ (by kernel_rfl) h1 (@to_ltr L 2 _ h2 rfl) fun w2 k => cell_keep hT.k k)
    (ac (@bl L _ _ _ _ _ _ h2 rfl (xi_lt rfl) (@to_flat L _ rfl)).x (ac (@bl L _ _ _ _ _ _ h2 rfl hx (@to_flat L _ rfl)).x
      (ac (@fa_of L 0 3 b _ 2 2 (fa_tab2 b) h0 h3).x (ac (@ld_ok L (kep w) _ 3 _ _ _ (by kernel_rfl) h3 (@to_ltr L 4 _ h4 rfl) fun w2 k => cell_keep hT.s k)
        (ac (@bl L _ _ _ _ _ _ h4 rfl (xi_lt rfl) (@to_flat L _ rfl)).x (ac (@bl L _ _ _ _ _ _ h4 rfl hy (@to_flat L _ rfl)).x an))))))))
theorem check_tab (hT : TabIn w b kind style mb clk es tab) : Calls Tryz.prog 8 #[.pointer (some ⟨b, 0, none⟩)] w fun e w' => e = .returned (.int .i64 (Tbl.chkV kind style tab : Nat)) ∧ Below w.heap.size w w' := by
  have hce := fun o ho => kc_ce hT (o := o) ho
  have hcs : Tbl.chkFrom tab 0 19 = none ∨ Tbl.chkFrom tab 0 19 = some 13 ∨ Tbl.chkFrom tab 0 19 = some 2 ∨ Tbl.chkFrom tab 0 19 = some 10 ∨ Tbl.chkFrom tab 0 19 = some 5 := err_cases fun e h => chkFrom_is 19 0 h
  unfold Tbl.chkV Tbl.badK
  generalize ho : Tbl.chkFrom tab 0 19 = o at hce hcs ⊢
  let L : Ltr := kcLt b 0 kind style
  exact symGF L 60 (kk_ok hT (xi_ge rfl) (xi_ge rfl) L rfl rfl rfl rfl rfl) an (ac (hce o rfl) an) an (.cons (.ltr rfl rfl) .nil) rfl (kc_run4 _ _ _ _ o hcs)
end
end Go.Proofs.YtjfchpfbpmediaaGreatDoor
/-
  table: the law's Check: its contract, the same.
-/
namespace Go.Proofs.YtjfchpfbpmediaaGreatDoor
open Go Go.RowKit
end Go.Proofs.YtjfchpfbpmediaaGreatDoor
/-
  table: the law's Check: its contract, the same as the program's.
-/
namespace Go.Proofs.YtjfchpfbpmediaaGreatDoor
open Go Go.RowKit
namespace Tbl
end Tbl
section
variable {w : World} {b mb clk : Nat} {kind style : Int} {es : List MapEntry} {tab : Nat → Nat → List ByteArray}
theorem TabIn.texts (h : TabIn w b kind style mb clk es tab) (c v : Nat) : TextsIn w (slOf es c v) (tab c v) := by
  obtain ⟨q, A, cp, h1, h2, h3, h4, h5⟩ := h.sl c v
  exact ⟨h4, A, cp, h3, h5⟩
end
end Go.Proofs.YtjfchpfbpmediaaGreatDoor
