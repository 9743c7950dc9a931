/-
  The law FoldJoins: every call of it returns true, from a world that holds the tables.
-/
import Derived.Test.YtanonhannngkmaaGreatDoorBsA
namespace Go.Proofs.YtanonhannngkmaaGreatDoor
open Go Go.RowKit
def fjO (p q r : Bool) : List OE := [lenE 9 (Lt 0) (Lt 2), binE .gtr (Lt 2) (.int .i64 (200 : Nat)) (.bool p), lenE 9 (Lt 1) (Lt 3), binE .gtr (Lt 3) (.int .i64 (200 : Nat)) (.bool q), binE .geq (Lt 4) (.int .i64 (0 : Nat)) (.bool r)]
def fjC (m : Bool) : List OE := [binE .geq (Lt 5) (.int .i64 (0 : Nat)) (.bool m), binT .add 9 9 (Lt 0) (Lt 1) (Lt 6)]
def fjD : List OE := [binE .add (Lt 2) (Lt 5) (Lt 7), binE .eql (Lt 7) (Lt 7) (.bool true)]
def fjE : List OE := [binT .add 9 9 (Lt 9) (Lt 10) (Lt 8), binT .eql 9 9 (Lt 8) (Lt 8) (.bool true)]
def fjP : List PE := [(7, fixP (.bool true))]
def fjB : PE := (9, patP [([Lt 0], Lt 4)])
def fjQ (v : Value) : PE := (8, patP [([Lt 1], Lt 5), ([Lt 6], v)])
def fjS : PE := (10, patP [([Lt 6], Lt 8), ([Lt 0], Lt 9), ([Lt 1], Lt 10)])
theorem fj_run0 (p q r : Bool) (h : (p || q) = true) : SymG (fjO p q r) [] [] fjP 60 6 [Lt 0, Lt 1] (.bool true) := by
  cases p <;> cases q <;> cases r <;> first | (cases h; done) | (delta SymG; show _ = _; kernel_rfl)
theorem fj_run1 : SymG (fjO false false true) [] [] (fjB :: fjP) 60 6 [Lt 0, Lt 1] (.bool true) := by delta SymG; show _ = _; kernel_rfl
theorem fj_run2 : SymG (fjO false false false ++ fjC true ++ fjD) [] [] (fjQ (Lt 7) :: fjB :: fjP) 60 6 [Lt 0, Lt 1] (.bool true) := by delta SymG; show _ = _; kernel_rfl
theorem fj_run3 : SymG (fjO false false false ++ fjC false ++ fjE) [] [] (fjQ (.int .i64 (-1)) :: fjS :: fjB :: fjP) 60 6 [Lt 0, Lt 1] (.bool true) := by delta SymG; show _ = _; kernel_rfl
theorem badJ_ge {xs : List (List UInt8)} {r : List UInt8} : decide (Fld.badI xs r ≥ ((0 : Nat) : Int)) = !r.isEmpty := by
  unfold Fld.badI
  cases r.isEmpty with
  | true => rfl
  | false => exact decide_eq_true (by show ((List.flatten xs).length : Int) ≥ 0; omega)
theorem foldJoins_walk (t u : List UInt8) (w : World) (hT : TabA w) :
    Calls Tryz.prog 6 #[.string ⟨⟨t⟩⟩, .string ⟨⟨u⟩⟩] w fun e w' => e = .returned (.bool true) ∧ Below w.heap.size w w' := by
  obtain ⟨xs, r, ex, vx, sr⟩ := Fld.parts t
  obtain ⟨ys, q, ey, vy, sq⟩ := Fld.parts u
  let Lr : Ltr := ltrL [.string ⟨⟨t⟩⟩, .string ⟨⟨u⟩⟩, .int .i64 t.length, .int .i64 u.length, .int .i64 (Fld.badI xs r), .int .i64 (Fld.badI ys q), .string ⟨⟨t ++ u⟩⟩, .int .i64 (t.length + (List.flatten ys).length : Nat), .string ⟨⟨Fld.lows (xs ++ ys)⟩⟩, .string ⟨⟨Fld.lows xs⟩⟩, .string ⟨⟨Fld.lows ys⟩⟩]
  have hO : ∀ e ∈ fjO (decide (200 < t.length)) (decide (200 < u.length)) (!r.isEmpty), @OEOkX Lr Tryz.prog (kep w) e :=
    ac (@len_ba Lr 0 2 ⟨⟨t⟩⟩ rfl rfl).x (ac (@bl Lr _ _ _ _ _ _ rfl rfl (x_gt (n := t.length) (m := 200) rfl) (@to_flat Lr _ rfl)).x (ac (@len_ba Lr 1 3 ⟨⟨u⟩⟩ rfl rfl).x (ac (@bl Lr _ _ _ _ _ _ rfl rfl (x_gt (n := u.length) (m := 200) rfl) (@to_flat Lr _ rfl)).x
      (ac (@bl Lr _ _ _ _ _ _ rfl rfl (show binX .geq (.int .i64 (Fld.badI xs r)) (.int .i64 ((0 : Nat) : Int)) = some (.bool (!r.isEmpty)) by rw [← badJ_ge (xs := xs)]; rfl) (@to_flat Lr _ rfl)).x an))))
  have hP : ∀ e ∈ fjP, @PEOk Lr Tryz.prog (kep w) 64 e := ac (@fixP_ok _ _ _ Lr _ _ rfl fun w' k => awk10 w' (hT.t.keep k) (hT.m.keep k) (hT.u.keep k)) an
  have ha : @RelL Lr (startE 64) [Lt 0, Lt 1] [.string ⟨⟨t⟩⟩, .string ⟨⟨u⟩⟩] := @RelL.cons Lr _ _ _ _ _ (@Rel.ltr Lr _ 0 _ rfl rfl) (@RelL.cons Lr _ _ _ _ _ (@Rel.ltr Lr _ 1 _ rfl rfl) (@RelL.nil Lr _))
  by_cases h : (decide (200 < t.length) || decide (200 < u.length)) = true
  · exact symGF Lr 60 hO an an hP ha rfl (fj_run0 _ _ _ h)
  · simp only [Bool.not_eq_true, Bool.or_eq_false_iff] at h
    rw [h.1, h.2] at hO
    have h1 : t.length ≤ 200 := by have := of_decide_eq_false h.1; omega
    have h2 : u.length ≤ 200 := by have := of_decide_eq_false h.2; omega
    have arg : ∀ {f : FuncId} {i : Nat} {v z : Value} {l : List UInt8}, Lr.v i = some (.string ⟨⟨l⟩⟩) → (∀ E : Ren, @Rel Lr E v z) → (∀ w', (∀ b, (kep w) b → w'.heap[b]? = (kep w).ob b) → Calls Tryz.prog f #[.string ⟨⟨l⟩⟩] w' fun e w2 => e = .returned z ∧ Below w'.heap.size w' w2) →
        ∀ (E : Ren) (w' : World) (args' : List Value), (∀ b, (kep w) b → w'.heap[b]? = (kep w).ob b) → @RelL Lr E [Lt i] args' → Calls Tryz.prog f ⟨args'⟩ w' fun e w2 => ∃ v', e = .returned v' ∧ @Rel Lr E v v' ∧ Below w'.heap.size w' w2 := by
      intro f i v z l hi hv hc E w' args' k ha
      cases ha with
      | cons h1 t1 =>
        cases t1
        rw [@is_ltr Lr i _ hi E _ h1]
        exact (hc w' k).mono fun e w2 p => ⟨_, p.1, hv E, p.2⟩
    have hB : @PEOk Lr Tryz.prog (kep w) 64 fjB := @patP_ok _ _ _ Lr _ _ (ac (arg (i := 0) rfl (@to_ltr Lr 4 _ rfl rfl) fun w' k => lbad_any ⟨⟨t⟩⟩ (by show t.length ≤ _; omega) xs r ex vx sr w') an)
    cases hr : r.isEmpty with
    | false =>
      rw [hr] at hO
      exact symGF Lr 60 hO an an (ac hB hP) ha rfl fj_run1
    | true =>
      rw [hr] at hO
      have hr0 : r = [] := by simpa using hr
      subst hr0
      have ex' : t = List.flatten xs := by rw [ex, List.append_nil]
      have eu : t ++ u = List.flatten (xs ++ ys) ++ q := by rw [List.flatten_append, List.append_assoc, ← ey, ← ex']
      have vu : ∀ x ∈ xs ++ ys, Fld.Vr x := fun x hx => (List.mem_append.1 hx).elim (vx x) (vy x)
      have hC : ∀ e ∈ fjC (!q.isEmpty), @OEOkX Lr Tryz.prog (kep w) e := ac (@bl Lr _ _ _ _ _ _ rfl rfl (show binX .geq (.int .i64 (Fld.badI ys q)) (.int .i64 ((0 : Nat) : Int)) = some (.bool (!q.isEmpty)) by rw [← badJ_ge (xs := ys)]; rfl) (@to_flat Lr _ rfl)).x (ac (@s_add Lr _ _ 6 t u (t ++ u) (@is_ltr Lr 0 _ rfl) (@is_ltr Lr 1 _ rfl) rfl rfl (by omega)).x an)
      have hQ : ∀ v, (∀ E : Ren, @Rel Lr E v (.int .i64 (Fld.badI (xs ++ ys) q))) → @PEOk Lr Tryz.prog (kep w) 64 (fjQ v) := fun v hv =>
        @patP_ok _ _ _ Lr _ _ (ac (arg (i := 1) rfl (@to_ltr Lr 5 _ rfl rfl) fun w' k => bad_any ⟨⟨u⟩⟩ ys q ey vy sq w' (hT.u.keep k)) (ac (arg (i := 6) rfl hv fun w' k => bad_any ⟨⟨t ++ u⟩⟩ (xs ++ ys) q eu vu sq w' (hT.u.keep k)) an))
      cases hq : q.isEmpty with
      | false =>
        rw [hq] at hC
        have e5 : Fld.badI ys q = ((List.flatten ys).length : Nat) := by unfold Fld.badI; rw [hq]; rfl
        have e7 : Fld.badI (xs ++ ys) q = (t.length + (List.flatten ys).length : Nat) := by
          unfold Fld.badI
          rw [hq, List.flatten_append, List.length_append, ← ex']
          rfl
        have hly : (List.flatten ys).length ≤ 200 := by
          have := congrArg List.length ey
          rw [List.length_append] at this
          omega
        have hD : ∀ e ∈ fjD, @OEOkX Lr Tryz.prog (kep w) e := ac (@bll Lr _ _ _ _ _ _ _ rfl (show Lr.v 5 = some (.int .i64 ((List.flatten ys).length : Nat)) by rw [← e5]; rfl) (x_add (n := t.length) (m := (List.flatten ys).length) (by omega)) (@to_ltr Lr 7 _ rfl rfl)).x (ac (@eq_ltr Lr 7 _ rfl).x an)
        exact symGF Lr 60 (fun e he => (List.mem_append.1 he).elim (fun he => (List.mem_append.1 he).elim (hO e) (hC e)) (hD e)) an an (ac (hQ (Lt 7) (fun E => @to_ltr Lr 7 _ (by rw [e7]; rfl) rfl E)) (ac hB hP)) ha rfl fj_run2
      | true =>
        rw [hq] at hC
        have hq0 : q = [] := by simpa using hq
        subst hq0
        have ey' : u = List.flatten ys := by rw [ey, List.append_nil]
        have eu' : t ++ u = List.flatten (xs ++ ys) := by rw [eu, List.append_nil]
        have hl1 : (Fld.lows xs).length = t.length := by rw [Fld.lows_len vx, ← ex']
        have hl2 : (Fld.lows ys).length = u.length := by rw [Fld.lows_len vy, ← ey']
        have hE : ∀ e ∈ fjE, @OEOkX Lr Tryz.prog (kep w) e := ac (@s_add Lr _ _ 8 (Fld.lows xs) (Fld.lows ys) _ (@is_ltr Lr 9 _ rfl) (@is_ltr Lr 10 _ rfl) rfl (Fld.lows_app xs ys).symm (by omega)).x (ac (@eq_txt Lr 8 _ rfl).x an)
        have hS : @PEOk Lr Tryz.prog (kep w) 64 fjS := @patP_ok _ _ _ Lr _ _ (ac (arg (i := 6) rfl (@to_ltr Lr 8 _ rfl rfl) fun w' k => small_any ⟨⟨t ++ u⟩⟩ (by show (t ++ u).length ≤ _; rw [List.length_append]; omega) (xs ++ ys) eu' vu w') (ac (arg (i := 0) rfl (@to_ltr Lr 9 _ rfl rfl) fun w' k => small_any ⟨⟨t⟩⟩ (by show t.length ≤ _; omega) xs ex' vx w') (ac (arg (i := 1) rfl (@to_ltr Lr 10 _ rfl rfl) fun w' k => small_any ⟨⟨u⟩⟩ (by show u.length ≤ _; omega) ys ey' vy w') an)))
        exact symGF Lr 60 (fun e he => (List.mem_append.1 he).elim (fun he => (List.mem_append.1 he).elim (hO e) (hC e)) (hE e)) an an (ac (hQ (.int .i64 (-1)) (fun E => @to_flat Lr _ rfl E)) (ac hS (ac hB hP))) ha rfl fj_run3
end Go.Proofs.YtanonhannngkmaaGreatDoor
