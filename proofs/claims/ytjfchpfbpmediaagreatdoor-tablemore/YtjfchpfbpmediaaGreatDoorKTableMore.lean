/-
  The law TableMore: every call of it returns true, from a world that holds the tables.
-/
import Derived.Test.YtjfchpfbpmediaaGreatDoorBs7
import Derived.Test.YtjfchpfbpmediaaGreatDoorAw8
import Derived.Test.YtjfchpfbpmediaaGreatDoorTy7a
import Derived.Test.YtjfchpfbpmediaaGreatDoorTy7b
import Derived.Test.YtjfchpfbpmediaaGreatDoorTy7c
import Derived.Test.YtjfchpfbpmediaaGreatDoorTy7d
import Derived.Test.YtjfchpfbpmediaaGreatDoorTy7e
import Derived.Test.YtjfchpfbpmediaaGreatDoorTy7f
import Derived.Test.YtjfchpfbpmediaaGreatDoorTy7g
import Derived.Test.YtjfchpfbpmediaaGreatDoorTy7h
namespace Go.Proofs.YtjfchpfbpmediaaGreatDoor
open Go Go.RowKit
theorem tm_keys : Tbl.keys = [(0, 0), (1, 0)] ++ ([(2, 0), (2, 1), (2, 2), (2, 3)] ++ ([(3, 0), (3, 1), (3, 2), (3, 3)] ++ ([(4, 0), (4, 1), (4, 2), (4, 3)] ++ ([(5, 0), (6, 0), (7, 0), (8, 0), (9, 0), (10, 0), (11, 0), (12, 0)] ++ ([(13, 0)] ++ ([(13, 1)] ++ ([(13, 2)] ++ ([(13, 3)] ++ ([(13, 4)] ++ ([(13, 5)] ++ ([(13, 6)] ++ ([(13, 7)] ++ ([(13, 8)] ++ ([(13, 9)] ++ ([(13, 10)] ++ ([(13, 11)] ++ ([(14, 0), (14, 1)] ++ ([(14, 2), (14, 3)] ++ ([(14, 4), (14, 5)] ++ ([(14, 6)])))))))))))))))))))) := by kernel_rfl
theorem tm_of {l : List (Nat × Nat)} (h : tmAll 0 12 l = true) {k : Nat × Nat} (hk : k ∈ l) {o : Nat} (ho : o < Tbl.many k.1) : isV true (tmRun k.1 k.2 o) = true := by
  have h1 := List.all_eq_true.1 (List.all_eq_true.1 h k hk) o (List.mem_range.2 ho)
  have h12 : o < 12 := by
    have : Tbl.many k.1 ≤ 12 := by
      unfold Tbl.many
      split
      · omega
      · split
        · omega
        · split
          · omega
          · split <;> omega
    omega
  have h2 : (Nat.ble 0 o && Nat.blt o 12) = true := by
    rw [show Nat.ble 0 o = true from Nat.ble_eq_true_of_le (Nat.zero_le _), show Nat.blt o 12 = true by simpa [Nat.blt_eq] using h12]
    rfl
  rw [h2, cond_true] at h1
  exact h1
theorem tm_runs {k : Nat × Nat} (hk : k ∈ Tbl.keys) {o : Nat} (ho : o < Tbl.many k.1) : isV true (tmRun k.1 k.2 o) = true := by
  rw [tm_keys] at hk
  rcases List.mem_append.1 hk with hk | hk
  · exact tm_of tm_run0 hk ho
  rcases List.mem_append.1 hk with hk | hk
  · exact tm_of tm_run1 hk ho
  rcases List.mem_append.1 hk with hk | hk
  · exact tm_of tm_run2 hk ho
  rcases List.mem_append.1 hk with hk | hk
  · exact tm_of tm_run3 hk ho
  rcases List.mem_append.1 hk with hk | hk
  · exact tm_of tm_run4 hk ho
  rcases List.mem_append.1 hk with hk | hk
  · exact tm_of tm_run5 hk ho
  rcases List.mem_append.1 hk with hk | hk
  · exact tm_of tm_run6 hk ho
  rcases List.mem_append.1 hk with hk | hk
  · exact tm_of tm_run7 hk ho
  rcases List.mem_append.1 hk with hk | hk
  · exact tm_of tm_run8 hk ho
  rcases List.mem_append.1 hk with hk | hk
  · exact tm_of tm_run9 hk ho
  rcases List.mem_append.1 hk with hk | hk
  · exact tm_of tm_run10 hk ho
  rcases List.mem_append.1 hk with hk | hk
  · exact tm_of tm_run11 hk ho
  rcases List.mem_append.1 hk with hk | hk
  · exact tm_of tm_run12 hk ho
  rcases List.mem_append.1 hk with hk | hk
  · exact tm_of tm_run13 hk ho
  rcases List.mem_append.1 hk with hk | hk
  · exact tm_of tm_run14 hk ho
  rcases List.mem_append.1 hk with hk | hk
  · exact tm_of tm_run15 hk ho
  rcases List.mem_append.1 hk with hk | hk
  · exact tm_of tm_run16 hk ho
  rcases List.mem_append.1 hk with hk | hk
  · exact tm_of tm_run17 hk ho
  rcases List.mem_append.1 hk with hk | hk
  · exact tm_of tm_run18 hk ho
  rcases List.mem_append.1 hk with hk | hk
  · exact tm_of tm_run19 hk ho
  exact tm_of tm_run20 hk ho
theorem key_inM : ∀ c < 15, ∀ v < Tbl.many c, (c, v) ∈ Tbl.keys := by
  intro c hc v hv
  unfold Tbl.keys
  exact List.mem_flatMap.2 ⟨c, List.mem_range.2 (by omega), List.mem_map.2 ⟨v, List.mem_range.2 hv, rfl⟩⟩
def okS (y : Value) : Bool :=
  match y with
  | .string s => Nat.ble s.data.toList.length 1000
  | _ => false
def OkS (n : Nat) (T : TV) : Prop := ∀ t ∈ T, t.2.length ≤ n ∧ ∀ y ∈ t.2, okS y = true
theorem more_ok {n : Nat} {c v : Nat} {l : List Value} {T : TV} (h : OkS n T) (hl : ∀ y ∈ l, okS y = true) : OkS (n + l.length) (Tbl.more c v l T) := by
  intro t ht
  obtain ⟨s, hs, rfl⟩ := List.mem_map.1 ht
  cases (Nat.beq s.1.1 c && Nat.beq s.1.2 v) with
  | false => exact ⟨by have := (h s hs).1; show s.2.length ≤ _; omega, (h s hs).2⟩
  | true =>
    refine ⟨?_, fun y hy => (List.mem_append.1 hy).elim ((h s hs).2 y) (hl y)⟩
    have := (h s hs).1
    show (s.2 ++ l).length ≤ _
    rw [List.length_append]
    omega
theorem base_okS : OkS 100 Tbl.base := by
  have h : (Tbl.base.all fun t => Nat.ble t.2.length 100 && t.2.all okS) = true := by kernel_rfl
  intro t ht
  have := List.all_eq_true.1 h t ht
  simp only [Bool.and_eq_true] at this
  exact ⟨Nat.le_of_ble_eq_true this.1, fun y hy => List.all_eq_true.1 this.2 y hy⟩
theorem tab1_okS (c v : Nat) : OkS 102 (Tbl.tab1 c v) := more_ok base_okS (by
  intro y hy
  simp only [List.mem_cons, List.not_mem_nil, or_false] at hy
  rcases hy with rfl | rfl <;> rfl)
theorem tab2_okS (c v o : Nat) : OkS 103 (Tbl.tab2 c v o) := more_ok (tab1_okS c v) (by
  intro y hy
  simp only [List.mem_cons, List.not_mem_nil, or_false] at hy
  rcases hy with rfl
  rfl)
theorem okS_act [Ltr] {n : Nat} {T : TV} (h : OkS n T) : ∀ t ∈ T, ∀ x ∈ t.2, (∀ (E : Ren) u, Rel E x u → u = .string (actS x)) ∧ (actS x).size ≤ 1000000 := by
  intro t ht x hx
  have hk := (h t ht).2 x hx
  unfold okS at hk
  split at hk
  · rename_i s
    refine ⟨is_flat rfl, ?_⟩
    have := Nat.le_of_ble_eq_true hk
    have h2 : s.size = s.data.toList.length := rfl
    show s.size ≤ 1000000
    omega
  · cases hk
theorem base_none (c : Nat) (h : c < 19) : Tbl.catOf (tabF actS Tbl.base) c = none := by
  have := List.all_eq_true.1 base_cat c (List.mem_range.2 h)
  exact Option.isNone_iff_eq_none.1 this
theorem chk1V (k s c v : Nat) (hk : k < 3) (hs : s < 3) (hm : (c, v) ∈ Tbl.keys) (hc : c < 19) : Tbl.chkV k s (tabF actS (Tbl.tab1 c v)) = 0 := by
  have h1 : Tbl.badK (k : Int) (s : Int) = false := by unfold Tbl.badK; simp; omega
  have h2 : Tbl.chkFrom (tabF actS (Tbl.tab1 c v)) 0 19 = none := chk_one hc (Option.isNone_iff_eq_none.1 (List.all_eq_true.1 cat1 _ hm)) fun c' h3 h4 => by
    have := base_none c' h3
    unfold Tbl.catOf at this ⊢
    unfold Tbl.tab1
    rw [more_other h4]
    exact this
  unfold Tbl.chkV
  rw [h1, h2]
  rfl
theorem chk2V (k s c v o : Nat) (hk : k < 3) (hs : s < 3) (hm : (c, v) ∈ Tbl.keys) (ho : o < Tbl.many c) (hc : c < 19) : Tbl.chkV k s (tabF actS (Tbl.tab2 c v o)) = (bif Nat.beq o v then 0 else 5) := by
  have h1 : Tbl.badK (k : Int) (s : Int) = false := by unfold Tbl.badK; simp; omega
  have h3 := errIs_eq (List.all_eq_true.1 (List.all_eq_true.1 cat2 _ hm) o (List.mem_range.2 ho))
  have h2 : Tbl.chkFrom (tabF actS (Tbl.tab2 c v o)) 0 19 = bif Nat.beq o v then none else some 5 := chk_one hc h3 fun c' h3 h4 => by
    have := base_none c' h3
    unfold Tbl.catOf at this ⊢
    unfold Tbl.tab2 Tbl.tab1
    rw [more_other h4, more_other h4]
    exact this
  unfold Tbl.chkV
  rw [h1, h2]
  cases Nat.beq o v <;> rfl
abbrev tmLt (kind style cat val other : Nat) : Ltr := ltrL [.int .u8 kind, .int .u8 style, .int .u8 (kind % 3 : Nat), .int .u8 (style % 3 : Nat), .int .i64 (kind % 3 : Nat), .int .i64 (style % 3 : Nat), .int .u8 cat, .int .u8 val, .int .u8 other, .int .i64 val, .int .i64 other]
theorem wholeM (L : Ltr) {kind style : Nat} (h0 : L.v 0 = some (.int .u8 kind)) (h1 : L.v 1 = some (.int .u8 style)) (h2 : L.v 2 = some (.int .u8 (kind % 3 : Nat))) (h3 : L.v 3 = some (.int .u8 (style % 3 : Nat))) (h4 : L.v 4 = some (.int .i64 (kind % 3 : Nat))) (h5 : L.v 5 = some (.int .i64 (style % 3 : Nat))) (w : World) : @PrimOk L Tryz.prog wholeP 64 (kep w) 64 := by
  have hO : ∀ e ∈ [binE .rem (Lt 0) (.int .u8 (3 : Nat)) (Lt 2), binE .rem (Lt 1) (.int .u8 (3 : Nat)) (Lt 3), cvE 5 38 (Lt 2) (Lt 4), cvE 5 39 (Lt 3) (Lt 5)], @OEOkX L Tryz.prog (kep w) e := by
    have l3 : ∀ n : Nat, n % 3 < 3 := fun n => Nat.mod_lt _ (by omega)
    have := l3 kind
    have := l3 style
    exact ac (bl h0 rfl (xk_rem (m := 3) (by omega)) (to_ltr h2 rfl)).x (ac (bl h1 rfl (xk_rem (m := 3) (by omega)) (to_ltr h3 rfl)).x (ac (cv_kind (by omega) h2 h4).x (ac (cv_style (by omega) h3 h5).x an)))
  exact @atP_ok L (orcG 64 64 _ [] []) (prL []) 64 (kep w) 64 (@orcG_ok _ _ _ _ L _ [] [] hO an an) (@prL_ok _ _ _ L _ _ an) 200 _ _ _ _ _ whole_run
theorem tableMore_walk (kind style cat val other : Nat) (_hk : kind ≤ 255) (_hs : style ≤ 255) (_hc : cat ≤ 255) (hv : val ≤ 255) (ho : other ≤ 255) (w : World) (hT : Tab7 w) :
    Calls Tryz.prog 5 #[.int .u8 kind, .int .u8 style, .int .u8 cat, .int .u8 val, .int .u8 other] w fun e w' => e = .returned (.bool true) ∧ Below w.heap.size w w' := by
  have l3 : ∀ n : Nat, n % 3 < 3 := fun n => Nat.mod_lt _ (by omega)
  have hcl : cat % 15 < 15 := Nat.mod_lt _ (by omega)
  have hmp := many_pos (cat % 15) hcl
  have hvl : val % Tbl.many (cat % 15) < Tbl.many (cat % 15) := Nat.mod_lt _ (by omega)
  have hol : other % Tbl.many (cat % 15) < Tbl.many (cat % 15) := Nat.mod_lt _ (by omega)
  have hm := key_inM _ hcl _ hvl
  have e := tm_runs hm hol
  let L : Ltr := tmLt kind style cat val other
  have hO : ∀ e ∈ tmO (cat % 15) (val % Tbl.many (cat % 15)) (other % Tbl.many (cat % 15)), @OEOkX L Tryz.prog (kep w) e :=
    ac (@bl L _ _ _ _ _ _ rfl rfl (xk_rem (m := 15) (by omega)) (@to_flat L _ rfl)).x (ac (@cv_u8 L 7 9 _ hv rfl rfl).x (ac (@bl L _ _ _ _ _ _ rfl rfl (xk_rem hmp) (@to_flat L _ rfl)).x (ac (@cv_u8 L 8 10 _ ho rfl rfl).x (ac (@bl L _ _ _ _ _ _ rfl rfl (xk_rem hmp) (@to_flat L _ rfl)).x an))))
  have t1 := tab1_okS (cat % 15) (val % Tbl.many (cat % 15))
  have t2 := tab2_okS (cat % 15) (val % Tbl.many (cat % 15)) (other % Tbl.many (cat % 15))
  have r1 : ∀ E : Ren, @Rel L E (.int .i64 0) (.int .i64 (Tbl.chkV (kind % 3 : Nat) (style % 3 : Nat) (tabF actS (Tbl.tab1 (cat % 15) (val % Tbl.many (cat % 15)))) : Nat)) := by
    rw [chk1V _ _ _ _ (l3 _) (l3 _) hm (by omega)]
    exact @to_flat L _ rfl
  have r2 : ∀ E : Ren, @Rel L E (.int .i64 (bif Nat.beq (other % Tbl.many (cat % 15)) (val % Tbl.many (cat % 15)) then (0 : Nat) else (5 : Nat) : Nat)) (.int .i64 (Tbl.chkV (kind % 3 : Nat) (style % 3 : Nat) (tabF actS (Tbl.tab2 (cat % 15) (val % Tbl.many (cat % 15)) (other % Tbl.many (cat % 15)))) : Nat)) := by
    rw [chk2V _ _ _ _ _ (l3 _) (l3 _) hm hol (by omega)]
    exact @to_flat L _ rfl
  refine symP L 100 hO (ac (@med_ok _ _ _ L) (ac (@est_ok _ _ _ L) an)) an (@orP_ok L _ _ _ _ _ (wholeM L rfl rfl rfl rfl rfl rfl w) (@prL_ok _ _ _ L _ _ (ac (@fixP_ok _ _ _ L _ _ rfl fun w' k => awk8 w' (hT.t.keep k)) (ac (@chk2_ok L _ _ _ _ _ _ ?_ ?_) an)))) (.cons (.ltr rfl rfl) (.cons (.ltr rfl rfl) (.cons (.ltr rfl rfl) (.cons (.ltr rfl rfl) (.cons (.ltr rfl rfl) .nil))))) rfl (isV_eq e)
  · exact @chkP_ok _ _ L _ _ _ _ _ (kind % 3 : Nat) (style % 3 : Nat) actS (@is_ltr L 4 _ rfl) (@is_ltr L 5 _ rfl) (@okS_act L _ _ t1) (fun t ht => by have := (t1 t ht).1; omega) r1 fun w' b mb clk es h => check_tab h
  · exact @chkP_ok _ _ L _ _ _ _ _ (kind % 3 : Nat) (style % 3 : Nat) actS (@is_ltr L 4 _ rfl) (@is_ltr L 5 _ rfl) (@okS_act L _ _ t2) (fun t ht => by have := (t2 t ht).1; omega) r2 fun w' b mb clk es h => check_tab h
end Go.Proofs.YtjfchpfbpmediaaGreatDoor
