/-
  The law FoldSmall: every call of it returns true, from a world that holds the tables.
-/
import Derived.Test.YtanonhannngkmaaGreatDoorBsA
namespace Go.Proofs.YtanonhannngkmaaGreatDoor
open Go Go.RowKit
def fsO (a b : Bool) : List OE := [lenE 9 (Lt 0) (Lt 3), binE .gtr (Lt 3) (.int .i64 (300 : Nat)) (.bool a), binE .geq (Lt 2) (.int .i64 (0 : Nat)) (.bool b)]
def fsC : List OE := [binT .eql 9 9 (Lt 1) (Lt 1) (.bool true), lenE 9 (Lt 1) (Lt 3), binE .eql (Lt 3) (Lt 3) (.bool true)]
def fsP : List PE := [(7, fixP (.bool true))]
def fsB : PE := (9, patP [([Lt 0], Lt 2)])
def fsQ : List PE := [(10, patP [([Lt 0], Lt 1), ([Lt 1], Lt 1)]), (11, patP [([Lt 0], Lt 1)]), (8, patP [([Lt 1], .int .i64 (-1))])]
theorem fs_run0 (b : Bool) : SymG (fsO true b) [] [] fsP 60 4 [Lt 0] (.bool true) := by
  cases b <;> (delta SymG; show _ = _; kernel_rfl)
theorem fs_run1 : SymG (fsO false true) [] [] (fsB :: fsP) 60 4 [Lt 0] (.bool true) := by delta SymG; show _ = _; kernel_rfl
theorem fs_run2 : SymG (fsC ++ fsO false false) [] [] (fsB :: fsP ++ fsQ) 60 4 [Lt 0] (.bool true) := by delta SymG; show _ = _; kernel_rfl
theorem badI_ge {xs : List (List UInt8)} {r : List UInt8} : decide (Fld.badI xs r ≥ ((0 : Nat) : Int)) = !r.isEmpty := by
  unfold Fld.badI
  cases r.isEmpty with
  | true => rfl
  | false => exact decide_eq_true (by show ((List.flatten xs).length : Int) ≥ 0; omega)
theorem foldSmall_walk (t : List UInt8) (w : World) (hT : TabA w) :
    Calls Tryz.prog 4 #[.string ⟨⟨t⟩⟩] w fun e w' => e = .returned (.bool true) ∧ Below w.heap.size w w' := by
  obtain ⟨xs, r, ex, vx, sr⟩ := Fld.parts t
  let Lr : Ltr := ltrL [.string ⟨⟨t⟩⟩, .string ⟨⟨Fld.lows xs⟩⟩, .int .i64 (Fld.badI xs r), .int .i64 t.length]
  have hO : ∀ e ∈ fsO (decide (300 < t.length)) (!r.isEmpty), @OEOkX Lr Tryz.prog (kep w) e :=
    ac (@len_ba Lr 0 3 ⟨⟨t⟩⟩ rfl rfl).x (ac (@bl Lr _ _ _ _ _ _ rfl rfl (x_gt (n := t.length) (m := 300) rfl) (@to_flat Lr _ rfl)).x (ac (@bl Lr _ _ _ _ _ _ rfl rfl (show binX .geq (.int .i64 (Fld.badI xs r)) (.int .i64 ((0 : Nat) : Int)) = some (.bool (!r.isEmpty)) by rw [← badI_ge (xs := xs)]; rfl) (@to_flat Lr _ rfl)).x an))
  have hP : ∀ e ∈ fsP, @PEOk Lr Tryz.prog (kep w) 64 e := ac (@fixP_ok _ _ _ Lr _ _ rfl fun w' k => awk10 w' (hT.t.keep k) (hT.m.keep k) (hT.u.keep k)) an
  have ha : @RelL Lr (startE 64) [Lt 0] [.string ⟨⟨t⟩⟩] := @RelL.cons Lr _ _ _ _ _ (@Rel.ltr Lr _ 0 _ rfl rfl) (@RelL.nil Lr _)
  cases h3 : decide (300 < t.length) with
  | true =>
    rw [h3] at hO
    exact symGF Lr 60 hO an an hP ha rfl (fs_run0 _)
  | false =>
    rw [h3] at hO
    have h1 : t.length ≤ 300 := by have := of_decide_eq_false h3; omega
    have arg : ∀ {f : FuncId} {i : Nat} {v u : Value} {l : List UInt8}, Lr.v i = some (.string ⟨⟨l⟩⟩) → (∀ E : Ren, @Rel Lr E v u) → (∀ w', (∀ b, (kep w) b → w'.heap[b]? = (kep w).ob b) → Calls Tryz.prog f #[.string ⟨⟨l⟩⟩] w' fun e w2 => e = .returned u ∧ Below w'.heap.size w' w2) →
        ∀ (E : Ren) (w' : World) (args' : List Value), (∀ b, (kep w) b → w'.heap[b]? = (kep w).ob b) → @RelL Lr E [Lt i] args' → Calls Tryz.prog f ⟨args'⟩ w' fun e w2 => ∃ v', e = .returned v' ∧ @Rel Lr E v v' ∧ Below w'.heap.size w' w2 := by
      intro f i v u l hi hv hc E w' args' k ha
      cases ha with
      | cons h1 t1 =>
        cases t1
        rw [@is_ltr Lr i _ hi E _ h1]
        exact (hc w' k).mono fun e w2 p => ⟨_, p.1, hv E, p.2⟩
    have hB : @PEOk Lr Tryz.prog (kep w) 64 fsB := @patP_ok _ _ _ Lr _ _ (ac (arg (i := 0) rfl (@to_ltr Lr 2 _ rfl rfl) fun w' k => lbad_any ⟨⟨t⟩⟩ (by show t.length ≤ _; omega) xs r ex vx sr w') an)
    cases hr : r.isEmpty with
    | false =>
      rw [hr] at hO
      exact symGF Lr 60 hO an an (ac hB hP) ha rfl fs_run1
    | true =>
      rw [hr] at hO
      have hr0 : r = [] := by simpa using hr
      subst hr0
      have ex' : t = List.flatten xs := by rw [ex, List.append_nil]
      have hl : (Fld.lows xs).length = t.length := by rw [Fld.lows_len vx, ← ex']
      have hC : ∀ e ∈ fsC, @OEOkX Lr Tryz.prog (kep w) e := ac (@eq_txt Lr 1 _ rfl).x (ac (@len_ba Lr 1 3 ⟨⟨Fld.lows xs⟩⟩ rfl (by show some (Value.int .i64 (t.length : Nat)) = some (.int .i64 ((Fld.lows xs).length : Nat)); rw [hl])).x (ac (@eq_ltr Lr 3 _ rfl).x an))
      have hs2 := fun w' => small_any ⟨⟨Fld.lows xs⟩⟩ (by show (Fld.lows xs).length ≤ _; omega) (xs.map Fld.lowB) rfl (Fld.lows_vr vx) w'
      rw [Fld.lows_low] at hs2
      have hQ : ∀ e ∈ fsQ, @PEOk Lr Tryz.prog (kep w) 64 e :=
        ac (@patP_ok _ _ _ Lr _ _ (ac (arg (i := 0) rfl (@to_ltr Lr 1 _ rfl rfl) fun w' k => small_any ⟨⟨t⟩⟩ (by show t.length ≤ _; omega) xs ex' vx w') (ac (arg (i := 1) rfl (@to_ltr Lr 1 _ rfl rfl) fun w' k => hs2 w') an)))
          (ac (@patP_ok _ _ _ Lr _ _ (ac (arg (i := 0) rfl (@to_ltr Lr 1 _ rfl rfl) fun w' k => lsmall_any ⟨⟨t⟩⟩ (by show t.length ≤ _; omega) xs ex' vx w') an)) (ac (@patP_ok _ _ _ Lr _ _ (ac (arg (i := 1) rfl (@to_flat Lr _ rfl) fun w' k => bad_any ⟨⟨Fld.lows xs⟩⟩ (xs.map Fld.lowB) [] (by simp [Fld.lows]) (Fld.lows_vr vx) rfl w' (hT.u.keep k)) an)) an))
      exact symGF Lr 60 (fun e he => (List.mem_append.1 he).elim (hC e) (hO e)) an an (fun e he => (List.mem_append.1 he).elim (ac hB hP e) (hQ e)) ha rfl fs_run2
end Go.Proofs.YtanonhannngkmaaGreatDoor
