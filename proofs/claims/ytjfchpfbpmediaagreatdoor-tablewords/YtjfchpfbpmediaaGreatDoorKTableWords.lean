/-
  The law TableWords: every call of it returns true, from a world that holds the tables.
-/
import Derived.Test.YtjfchpfbpmediaaGreatDoorBs7
import Derived.Test.YtjfchpfbpmediaaGreatDoorTw4
import Derived.Test.YtjfchpfbpmediaaGreatDoorAw8
namespace Go.Proofs.YtjfchpfbpmediaaGreatDoor
open Go Go.RowKit
def twO (a b : Bool) : List OE := [cvE 32 3 (Lt 6) (Lt 7), cvE 22 34 (Lt 8) (Lt 10), cvE 22 3 (Lt 9) (Lt 11), binE .eql (Lt 10) (.int .i64 2) (.bool a), binE .eql (Lt 10) (.int .i64 12) (.bool b), binE .eql (Lt 12) (Lt 12) (.bool true)]
noncomputable def twN (f : Nat) : Prim := orP wholeP (prL ((6, fixP (.bool true)) :: (13, patP [([Lt 10], Lt 12)]) :: (14, patP [([Lt 10], Lt 12)]) :: twF f))
noncomputable def twNo (a b : Bool) (f : Nat) : Option (Value × RW) := callEv Tryz.prog (twN f) 64 (@codeQ (orcG 64 64 (twO a b) [noKeyE 10 11] []) Tryz.prog (twN f) 64 64 100 false) 4 [Lt 0, Lt 1, Lt 8, Lt 9, Lt 6] ⟨64, []⟩
set_option maxRecDepth 100000 in
theorem tw_none : (([false, true] : List Bool).all fun a => ([false, true] : List Bool).all fun b => (List.range 3).all fun f => isV true (twNo a b f)) = true := by kernel_rfl
theorem form_lt (k n : Nat) : ∃ f : Nat, Plu.form k n = f ∧ f < 3 := by
  unfold Plu.form
  split
  · exact ⟨0, rfl, by omega⟩
  · split
    · exact ⟨2, rfl, by omega⟩
    · exact ⟨1, rfl, by omega⟩
theorem mem_bool (b : Bool) : b ∈ ([false, true] : List Bool) := by cases b <;> simp
abbrev twL (kind style n : Nat) (cat val : Int) : Ltr := ltrL [.int .u8 kind, .int .u8 style, .int .u8 (kind % 3 : Nat), .int .u8 (style % 3 : Nat), .int .i64 (kind % 3 : Nat), .int .i64 (style % 3 : Nat), .int .u16 n, .int .i64 n, .int .i8 cat, .int .i8 val, .int .i64 cat, .int .i64 val, .int .i64 (manyI cat)]
theorem whole_ok (L : Ltr) {kind style : Nat} (h0 : L.v 0 = some (.int .u8 kind)) (h1 : L.v 1 = some (.int .u8 style)) (h2 : L.v 2 = some (.int .u8 (kind % 3 : Nat))) (h3 : L.v 3 = some (.int .u8 (style % 3 : Nat))) (h4 : L.v 4 = some (.int .i64 (kind % 3 : Nat))) (h5 : L.v 5 = some (.int .i64 (style % 3 : Nat))) (w : World) : @PrimOk L Tryz.prog wholeP 64 (kep w) 64 := by
  have hO : ∀ e ∈ [binE .rem (Lt 0) (.int .u8 (3 : Nat)) (Lt 2), binE .rem (Lt 1) (.int .u8 (3 : Nat)) (Lt 3), cvE 5 38 (Lt 2) (Lt 4), cvE 5 39 (Lt 3) (Lt 5)], @OEOkX L Tryz.prog (kep w) e := by
    have l3 : ∀ n : Nat, n % 3 < 3 := fun n => Nat.mod_lt _ (by omega)
    have := l3 kind
    have := l3 style
    exact ac (bl h0 rfl (xk_rem (m := 3) (by omega)) (to_ltr h2 rfl)).x (ac (bl h1 rfl (xk_rem (m := 3) (by omega)) (to_ltr h3 rfl)).x (ac (cv_kind (by omega) h2 h4).x (ac (cv_style (by omega) h3 h5).x an)))
  exact @atP_ok L (orcG 64 64 _ [] []) (prL []) 64 (kep w) 64 (@orcG_ok _ _ _ _ L _ [] [] hO an an) (@prL_ok _ _ _ L _ _ an) 200 _ _ _ _ _ whole_run
theorem tableWords_walk (kind style : Nat) (cat val : Int) (n : Nat) (hk : kind ≤ 255) (hs : style ≤ 255) (hc : -128 ≤ cat ∧ cat ≤ 127) (hv : -128 ≤ val ∧ val ≤ 127) (hn : n ≤ 65535) (w : World) (hT : Tab7 w) :
    Calls Tryz.prog 4 #[.int .u8 kind, .int .u8 style, .int .i8 cat, .int .i8 val, .int .u16 n] w fun e w' => e = .returned (.bool true) ∧ Below w.heap.size w w' := by
  have l3 : kind % 3 < 3 := Nat.mod_lt _ (by omega)
  obtain ⟨f, hf, hf3⟩ := form_lt (kind % 3) n
  let L := twL kind style n cat val
  have hw : @PrimOk L Tryz.prog wholeP 64 (kep w) 64 := whole_ok L rfl rfl rfl rfl rfl rfl w
  have ha : @PEOk L Tryz.prog (kep w) 64 (6, fixP (.bool true)) := @fixP_ok _ _ _ L _ _ rfl fun w' k => awk8 w' (hT.t.keep k)
  have hF : ∀ e ∈ twF f, @PEOk L Tryz.prog (kep w) 64 e := by
    let _ : Ltr := L
    exact ac (p2 rfl rfl rfl fun w' _ => by rw [← hf]; exact form_any (kind % 3) n l3 (by omega) w') (ac (p2 rfl rfl rfl fun w' k => by rw [← hf]; exact lform_any (kind % 3) n l3 (by omega) w' (hT.p.keep k)) an)
  by_cases hkey : ∃ k ∈ Tbl.keys, cat = k.1 ∧ val = k.2
  · obtain ⟨k, hm, rfl, rfl⟩ := hkey
    have run : ∀ l : List PE, (∀ e ∈ l, @PEOk L Tryz.prog (kep w) 64 e) → isV true (twRun l k.1 k.2) = true → Calls Tryz.prog 4 #[.int .u8 kind, .int .u8 style, .int .i8 k.1, .int .i8 k.2, .int .u16 n] w fun e w' => e = .returned (.bool true) ∧ Below w.heap.size w w' := by
      intro l hl e
      exact symP L 100 (ac (@cv_u16 L _ _ _ hn rfl rfl).x an) an an (@orP_ok L _ _ _ _ _ hw (@prL_ok _ _ _ L _ _ (ac ha hl))) (.cons (.ltr rfl rfl) (.cons (.ltr rfl rfl) (.cons (.same rfl) (.cons (.same rfl) (.cons (.ltr rfl rfl) .nil))))) rfl (isV_eq e)
    cases hcc : (Nat.beq k.1 2 || Nat.beq k.1 12) with
    | true =>
      have h1 := List.all_eq_true.1 tw_forms k hm
      rw [hcc, cond_true] at h1
      have h2 := List.all_eq_true.1 h1 f (List.mem_range.2 hf3)
      exact run (twF f) hF h2
    | false =>
      have h1 := List.all_eq_true.1 tw_plain k hm
      rw [hcc, cond_false] at h1
      exact run [] an h1
  · have e := List.all_eq_true.1 (List.all_eq_true.1 (List.all_eq_true.1 tw_none (cat == 2) (mem_bool _)) (cat == 12) (mem_bool _)) f (List.mem_range.2 hf3)
    have hO : ∀ e ∈ twO (cat == 2) (cat == 12), @OEOkX L Tryz.prog (kep w) e := by
      let _ : Ltr := L
      exact ac (cv_u16 hn rfl rfl).x (ac (cv_cat hc rfl rfl).x (ac (cv_i8 hv rfl rfl).x (ac (bl rfl rfl (xi_eq rfl) (to_flat rfl)).x (ac (bl rfl rfl (xi_eq rfl) (to_flat rfl)).x (ac (bll rfl rfl (xi_eq (by simp)) (to_flat rfl)).x an)))))
    refine symP L 100 hO (ac (@noKey_ok L _ _ _ _ _ _ rfl rfl fun k hm h => hkey ⟨k, hm, h⟩) an) an (@orP_ok L _ _ _ _ _ hw (@prL_ok _ _ _ L _ _ (ac ha (ac ?_ (ac ?_ hF))))) (.cons (.ltr rfl rfl) (.cons (.ltr rfl rfl) (.cons (.ltr rfl rfl) (.cons (.ltr rfl rfl) (.cons (.ltr rfl rfl) .nil))))) rfl (isV_eq e)
    · exact @p1L L _ _ _ _ _ _ _ rfl rfl rfl fun w' _ => many_any cat w'
    · exact @p1L L _ _ _ _ _ _ _ rfl rfl rfl fun w' _ => lmany_any cat w'
end Go.Proofs.YtjfchpfbpmediaaGreatDoor
