/-
  The law FoldBad: every call of it returns true, from a world that holds the tables.
-/
import Derived.Test.YtanonhannngkmaaGreatDoorBsA
namespace Go.Proofs.YtanonhannngkmaaGreatDoor
open Go Go.RowKit
def fbO (a b : Bool) : List OE := [lenE 22 (Lt 0) (Lt 2), binE .gtr (Lt 2) (.int .i64 (200 : Nat)) (.bool a), lenE 9 (Lt 1) (Lt 3), binE .gtr (Lt 3) (.int .i64 (200 : Nat)) (.bool b)]
def fbC : List OE := [cvE 22 9 (Lt 0) (Lt 4), binE .eql (Lt 5) (Lt 5) (.bool true), binE .eql (Lt 6) (Lt 6) (.bool true), binE .eql (Lt 8) (Lt 8) (.bool true), binT .add 9 9 (Lt 1) (Lt 4) (Lt 7)]
def fbP : List PE := [(7, fixP (.bool true))]
def fbQ : List PE := [(8, patP [([Lt 4], Lt 5), ([Lt 1], Lt 6), ([Lt 7], Lt 8)]), (9, patP [([Lt 4], Lt 5), ([Lt 1], Lt 6), ([Lt 7], Lt 8)])]
theorem fb_run1 (a b : Bool) (h : (a || b) = true) : SymG (fbO a b) [] [] fbP 60 3 [Lt 0, Lt 1] (.bool true) := by
  cases a <;> cases b <;> first | (cases h; done) | (delta SymG; show _ = _; kernel_rfl)
theorem fb_run2 : SymG (fbO false false ++ fbC) [] [] (fbP ++ fbQ) 60 3 [Lt 0, Lt 1] (.bool true) := by delta SymG; show _ = _; kernel_rfl
theorem foldBad_walk (A : Option Addr) (L : List UInt8) (c : Nat) (t : List UInt8) (w : World) (hB : BytesAt w A L) (hT : TabA w) :
    Calls Tryz.prog 3 #[.slice A L.length c, .string ⟨⟨t⟩⟩] w fun e w' => e = .returned (.bool true) ∧ Below w.heap.size w w' := by
  obtain ⟨xs, r, ex, vx, sr⟩ := Fld.parts L
  obtain ⟨ys, q, ey, vy, sq⟩ := Fld.parts t
  obtain ⟨zs, u, ez, vz, su⟩ := Fld.parts (t ++ L)
  let Lr : Ltr := ltrL [.slice A L.length c, .string ⟨⟨t⟩⟩, .int .i64 L.length, .int .i64 t.length, .string ⟨⟨L⟩⟩, .int .i64 (Fld.badI xs r), .int .i64 (Fld.badI ys q), .string ⟨⟨t ++ L⟩⟩, .int .i64 (Fld.badI zs u)]
  have hO : ∀ e ∈ fbO (decide (200 < L.length)) (decide (200 < t.length)), @OEOkX Lr Tryz.prog (kep w) e :=
    ac (@l_any Lr _ _ 0 2 _ _ _ Tryz.underlying22 rfl rfl).x (ac (@bl Lr _ _ _ _ _ _ rfl rfl (x_gt (n := L.length) (m := 200) rfl) (@to_flat Lr _ rfl)).x (ac (@len_ba Lr 1 3 ⟨⟨t⟩⟩ rfl rfl).x (ac (@bl Lr _ _ _ _ _ _ rfl rfl (x_gt (n := t.length) (m := 200) rfl) (@to_flat Lr _ rfl)).x an)))
  have hP : ∀ e ∈ fbP, @PEOk Lr Tryz.prog (kep w) 64 e := ac (@fixP_ok _ _ _ Lr _ _ rfl fun w' k => awk10 w' (hT.t.keep k) (hT.m.keep k) (hT.u.keep k)) an
  have ha : @RelL Lr (startE 64) [Lt 0, Lt 1] [.slice A L.length c, .string ⟨⟨t⟩⟩] := @RelL.cons Lr _ _ _ _ _ (@Rel.ltr Lr _ 0 _ rfl rfl) (@RelL.cons Lr _ _ _ _ _ (@Rel.ltr Lr _ 1 _ rfl rfl) (@RelL.nil Lr _))
  by_cases h : (decide (200 < L.length) || decide (200 < t.length)) = true
  · exact symGF Lr 60 hO an an hP ha rfl (fb_run1 _ _ h)
  · simp only [Bool.not_eq_true, Bool.or_eq_false_iff] at h
    rw [h.1, h.2] at hO
    have h1 : L.length ≤ 200 := by have := of_decide_eq_false h.1; omega
    have h2 : t.length ≤ 200 := by have := of_decide_eq_false h.2; omega
    have hC : ∀ e ∈ fbC, @OEOkX Lr Tryz.prog (kep w) e := ac (@by_text Lr (kep w) 0 4 _ _ _ L rfl rfl rfl fun w' k => hB.keep k) (ac (@eq_ltr Lr 5 _ rfl).x (ac (@eq_ltr Lr 6 _ rfl).x (ac (@eq_ltr Lr 8 _ rfl).x (ac (@s_add Lr _ _ 7 t L (t ++ L) (@is_ltr Lr 1 _ rfl) (@is_ltr Lr 4 _ rfl) rfl rfl (by omega)).x an))))
    have one : ∀ {f : FuncId} {i j : Nat} {l : List UInt8} {n : Int}, Lr.v i = some (.string ⟨⟨l⟩⟩) → Lr.v j = some (.int .i64 n) → (∀ w', (∀ b, (kep w) b → w'.heap[b]? = (kep w).ob b) → Calls Tryz.prog f #[.string ⟨⟨l⟩⟩] w' fun e w2 => e = .returned (.int .i64 n) ∧ Below w'.heap.size w' w2) →
        ∀ (E : Ren) (w' : World) (args' : List Value), (∀ b, (kep w) b → w'.heap[b]? = (kep w).ob b) → @RelL Lr E [Lt i] args' → Calls Tryz.prog f ⟨args'⟩ w' fun e w2 => ∃ v', e = .returned v' ∧ @Rel Lr E (Lt j) v' ∧ Below w'.heap.size w' w2 := by
      intro f i j l n hi hj hc E w' args' k ha
      cases ha with
      | cons h1 t1 =>
        cases t1
        rw [@is_ltr Lr i _ hi E _ h1]
        exact (hc w' k).mono fun e w2 p => ⟨_, p.1, @Rel.ltr Lr _ j _ hj rfl, p.2⟩
    have hQ : ∀ e ∈ fbQ, @PEOk Lr Tryz.prog (kep w) 64 e :=
      ac (@patP_ok _ _ _ Lr _ _ (ac (one rfl rfl fun w' k => bad_any ⟨⟨L⟩⟩ xs r ex vx sr w' (hT.u.keep k)) (ac (one rfl rfl fun w' k => bad_any ⟨⟨t⟩⟩ ys q ey vy sq w' (hT.u.keep k)) (ac (one rfl rfl fun w' k => bad_any ⟨⟨t ++ L⟩⟩ zs u ez vz su w' (hT.u.keep k)) an))))
        (ac (@patP_ok _ _ _ Lr _ _ (ac (one rfl rfl fun w' k => lbad_any ⟨⟨L⟩⟩ (by show L.length ≤ _; omega) xs r ex vx sr w') (ac (one rfl rfl fun w' k => lbad_any ⟨⟨t⟩⟩ (by show t.length ≤ _; omega) ys q ey vy sq w') (ac (one rfl rfl fun w' k => lbad_any ⟨⟨t ++ L⟩⟩ (by show (t ++ L).length ≤ _; rw [List.length_append]; omega) zs u ez vz su w') an)))) an)
    exact symGF Lr 60 (fun e he => (List.mem_append.1 he).elim (hO e) (hC e)) an an (fun e he => (List.mem_append.1 he).elim (hP e) (hQ e)) ha rfl fb_run2
end Go.Proofs.YtanonhannngkmaaGreatDoor
