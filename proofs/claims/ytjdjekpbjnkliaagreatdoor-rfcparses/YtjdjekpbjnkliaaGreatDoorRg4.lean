/-
  Texts read: days; a part's value into a rule: rfc.parseDay, rfc.parseValue.
-/
import Derived.Test.YtjdjekpbjnkliaaGreatDoorRf2
import Derived.Test.YtjdjekpbjnkliaaGreatDoorEql
namespace Go.Proofs.YtjdjekpbjnkliaaGreatDoor
open Go.RowKit
namespace Rfc
open Classical in
noncomputable def pday (s : List UInt8) : Option Int := if h : ∃ n y m d, Cal.Is n y m d ∧ s = date y m d then some h.choose else none
theorem pday_yes {n y m d : Int} (h : Cal.Is n y m d) : pday (date y m d) = some n := by
  have hx : ∃ n' y' m' d', Cal.Is n' y' m' d' ∧ date y m d = date y' m' d' := ⟨n, y, m, d, h, rfl⟩
  unfold pday
  rw [dif_pos hx]
  obtain ⟨y', m', d', h', e⟩ := hx.choose_spec
  exact congrArg some (un_inj (t := date y m d) (.inr ⟨y', m', d', h', e⟩) (.inr ⟨y, m, d, h, rfl⟩))
theorem pday_no {s : List UInt8} (h : ¬ ∃ n y m d, Cal.Is n y m d ∧ s = date y m d) : pday s = none := by
  unfold pday
  rw [dif_neg h]
end Rfc
section
variable {w : World} {ρ : Operand → Value} {o : Oper} {x y : Operand} {v u : Value} {n m : Int} {q : Bool} {b : ByteArray} {ad : Addr}
theorem k_lenS9 (ho : o.op = .call ⟨.builtin .len, #[x], #[9]⟩) (hx : ρ x = .string b) : (execOp ρ o).run Tryz.prog w = .ok (.value (.int .i64 b.size)) w := by
  simp only [execOp, ho]
  go_simp
theorem k_sl4 (ho : o.op = .slice 9 x none (some (.const (.int .i64 4))) none) (hx : ρ x = .string b) (hc : ρ (.const (.int .i64 4)) = .int .i64 4) (hb : b.size = 8) : (execOp ρ o).run Tryz.prog w = .ok (.value (.string (b.extract 0 4))) w := by
  simp only [execOp, ho, hx]
  go_simp
theorem k_sl46 (ho : o.op = .slice 9 x (some (.const (.int .i64 4))) (some (.const (.int .i64 6))) none) (hx : ρ x = .string b) (hc : ρ (.const (.int .i64 4)) = .int .i64 4) (hc' : ρ (.const (.int .i64 6)) = .int .i64 6) (hb : b.size = 8) : (execOp ρ o).run Tryz.prog w = .ok (.value (.string (b.extract 4 6))) w := by
  have hr := run_slice_string (P := Tryz.prog) w 9 b .i64 .i64 4 6 Tryz.underlying9 (by decide) (by decide) (by rw [hb]; decide)
  simp only [execOp, ho, hx]
  go_simp
theorem k_sl6 (ho : o.op = .slice 9 x (some (.const (.int .i64 6))) none none) (hx : ρ x = .string b) (hc : ρ (.const (.int .i64 6)) = .int .i64 6) (hb : b.size = 8) : (execOp ρ o).run Tryz.prog w = .ok (.value (.string (b.extract 6 b.size))) w := by
  simp only [execOp, ho, hx]
  go_simp
theorem c_pDay (ho : o.op = .call ⟨.value (.func 83), #[x], #[9]⟩) (hf : ρ (.func 83) = .func (.func 83) #[] #[]) (hx : ρ x = v) : (execOp ρ o).run Tryz.prog w = .ok (.enter 83 #[v]) w := by
  simp only [execOp, ho]
  go_simp
end
theorem eight (s : List UInt8) (h : s.length = 8) : ∃ b0 b1 b2 b3 b4 b5 b6 b7, s = [b0, b1, b2, b3, b4, b5, b6, b7] := by
  match s, h with
  | [b0, b1, b2, b3, b4, b5, b6, b7], _ => exact ⟨b0, b1, b2, b3, b4, b5, b6, b7, rfl⟩
theorem civil_any (b0 b1 b2 b3 b4 b5 b6 b7 : UInt8) (w : World) (hT : Tabs w) : Calls Tryz.prog 83 #[.string ⟨#[b0, b1, b2, b3, 45, b4, b5, 45, b6, b7]⟩] w fun e w' => ∃ v, e = .returned v ∧ v = ov (Rfc.pday [b0, b1, b2, b3, b4, b5, b6, b7]) ∧ Below w.heap.size w w' := by
  by_cases hg : Good ⟨#[b0, b1, b2, b3, 45, b4, b5, 45, b6, b7]⟩
  · obtain ⟨n, y, m, d, h, e⟩ := hg
    have e' : [b0, b1, b2, b3, b4, b5, b6, b7] = Rfc.date y m d := by
      have e1 := congrArg (fun x : ByteArray => x.data.toList) e
      simp only [txt, List.cons.injEq] at e1
      obtain ⟨e0, e1, e2, e3, -, e4, e5, -, e6, e7, -⟩ := e1
      simp only [Rfc.date]
      rw [e0, e1, e2, e3, e4, e5, e6, e7]
    rw [e, e', Rfc.pday_yes h]
    refine (parse_txt n y m d w hT.mon h).mono ?_
    rintro e w' ⟨rfl, rfl⟩
    exact ⟨_, rfl, rfl, Below.refl _ _⟩
  · rw [Rfc.pday_no (fun ⟨n, y, m, d, h, e⟩ => hg ⟨n, y, m, d, h, by
      simp only [Rfc.date, List.cons.injEq] at e
      obtain ⟨e0, e1, e2, e3, e4, e5, e6, e7, -⟩ := e
      rw [e0, e1, e2, e3, e4, e5, e6, e7]
      rfl⟩)]
    refine (parse_bad _ w hT.mon hg rfl).mono ?_
    rintro e w' ⟨rfl, rfl⟩
    exact ⟨_, rfl, rfl, Below.refl _ _⟩
noncomputable def pdBody : Code := Tryz.f47.body.getD .skip

set_option maxRecDepth 100000 in
set_option maxHeartbeats 1000000 in
theorem pd_short (s : List UInt8) (w : World) (h8 : s.length ≠ 8) :
    Calls Tryz.prog 47 #[.string ⟨s.toArray⟩] w fun e w' => ∃ v, e = .returned v ∧ v = ov (Rfc.pday s) ∧ Below w.heap.size w w' := by
  have hn : Rfc.pday s = none := Rfc.pday_no (fun ⟨n, y, m, d, _, e⟩ => h8 (by rw [e]; rfl))
  refine calls_of_wp Tryz.func47 (show Tryz.f47.body = some pdBody from rfl) ?_
  generalize hAA : (Act.mk (#[.string ⟨s.toArray⟩] ++ Array.replicate (Tryz.f47.ntmps - (#[.string ⟨s.toArray⟩] : Array Value).size) undef) []) = a
  have hs : a.tmps.size = 20 := by rw [← hAA]; simp [Tryz.ntmps47]
  have hd : a.defers = [] := by rw [← hAA]
  have h0 : a.tmps.getD 0 undef = .string ⟨s.toArray⟩ := by rw [← hAA]; simp
  clear hAA
  have kk := (kn hs hd).p h0; clear hs hd h0
  have hfin : ∀ (a' : Act) (w' : World) (x y : Value), a'.defers = [] → a'.tmps.getD 2 undef = x → a'.tmps.getD 3 undef = y → .tuple #[x, y] = ov (Rfc.pday s) → Below w.heap.size w w' → (bodyPost Tryz.prog Tryz.f47 fun e w' => ∃ v, e = .returned v ∧ v = ov (Rfc.pday s) ∧ Below w.heap.size w w') .ret a' w' := by
    intro a' w' x y k1 k2 k3 k4 k5
    exact ⟨k1, _, results2 rfl _ _ _, _, rfl, by rw [k2, k3, k4], k5⟩
  generalize (bodyPost Tryz.prog Tryz.f47 fun e w' => ∃ v, e = .returned v ∧ v = ov (Rfc.pday s) ∧ Below w.heap.size w w') = Q at hfin
  unfold pdBody
  conv => arg 2; whnf
  refine wp_seq ?_
  refine wpr 2 ?_
  refine opk 0 2 (v := .int .i64 0) kk (frY rfl (k_assign rfl rfl)) ?_; clear kk; intro a kk
  refine opk 1 3 (v := .bool false) kk (frY rfl (k_assign rfl rfl)) ?_; clear kk; intro a kk
  refine wp_seq ?_
  refine wp_seq ?_
  refine wpr 3 ?_
  refine opk 0 4 kk (frY rfl (k_move rfl (kk.e 0 rfl))) ?_; clear kk; intro a kk
  refine opk 1 5 (v := .int .i64 (⟨s.toArray⟩ : ByteArray).size) kk (frY rfl (k_lenS9 rfl (kk.e 4 rfl))) ?_; clear kk; intro a kk
  refine opk 2 6 (v := .bool true) kk (frY rfl (o_neI rfl (kk.e 5 rfl) rfl (by rw [ba_size]; simp; omega))) ?_; clear kk; intro a kk
  refine wp_cond_true (kk.e 6 rfl) ?_
  refine wp_seq ?_
  refine wpr 2 ?_
  replace kk := kk.keep [6, 3, 0] rfl
  refine opk 0 2 (v := .int .i64 0) kk (frY rfl (k_assign rfl rfl)) ?_; clear kk; intro a kk
  replace kk := kk.keep [2, 6, 0] rfl
  refine opk 1 3 (v := .bool false) kk (frY rfl (k_assign rfl rfl)) ?_; clear kk; intro a kk
  refine wp_ret ?_
  exact hfin a _ _ _ kk.d (kk.g 2 rfl) (kk.g 3 rfl) (by rw [hn]; rfl) (Below.refl _ _)

set_option maxRecDepth 100000 in
set_option maxHeartbeats 1000000 in
theorem pd_eight (b0 b1 b2 b3 b4 b5 b6 b7 : UInt8) (w : World) (hT : Tabs w) :
    Calls Tryz.prog 47 #[.string ⟨#[b0, b1, b2, b3, b4, b5, b6, b7]⟩] w fun e w' => ∃ v, e = .returned v ∧ v = ov (Rfc.pday [b0, b1, b2, b3, b4, b5, b6, b7]) ∧ Below w.heap.size w w' := by
  refine calls_of_wp Tryz.func47 (show Tryz.f47.body = some pdBody from rfl) ?_
  generalize hAA : (Act.mk (#[.string ⟨#[b0, b1, b2, b3, b4, b5, b6, b7]⟩] ++ Array.replicate (Tryz.f47.ntmps - (#[.string ⟨#[b0, b1, b2, b3, b4, b5, b6, b7]⟩] : Array Value).size) undef) []) = a
  have hs : a.tmps.size = 20 := by rw [← hAA]; simp [Tryz.ntmps47]
  have hd : a.defers = [] := by rw [← hAA]
  have h0 : a.tmps.getD 0 undef = .string ⟨#[b0, b1, b2, b3, b4, b5, b6, b7]⟩ := by rw [← hAA]; simp
  clear hAA
  refine Code.wp_mono NoPanic.imp ?_
  have hfin : ∀ (a' : Act) (w' : World) (x y : Value), a'.defers = [] → a'.tmps.getD 2 undef = x → a'.tmps.getD 3 undef = y → .tuple #[x, y] = ov (Rfc.pday [b0, b1, b2, b3, b4, b5, b6, b7]) → Below w.heap.size w w' → NoPanic (bodyPost Tryz.prog Tryz.f47 fun e w' => ∃ v, e = .returned v ∧ v = ov (Rfc.pday [b0, b1, b2, b3, b4, b5, b6, b7]) ∧ Below w.heap.size w w') .ret a' w' := by
    intro a' w' x y k1 k2 k3 k4 k5
    exact ⟨k1, _, results2 rfl _ _ _, _, rfl, by rw [k2, k3, k4], k5⟩
  have hQ : Blind (NoPanic (bodyPost Tryz.prog Tryz.f47 fun e w' => ∃ v, e = .returned v ∧ v = ov (Rfc.pday [b0, b1, b2, b3, b4, b5, b6, b7]) ∧ Below w.heap.size w w')) := fun _ _ _ _ q => q.elim
  generalize NoPanic (bodyPost Tryz.prog Tryz.f47 fun e w' => ∃ v, e = .returned v ∧ v = ov (Rfc.pday [b0, b1, b2, b3, b4, b5, b6, b7]) ∧ Below w.heap.size w w') = Q at hQ hfin
  unfold pdBody
  conv => arg 2; whnf
  refine wp_seq ?_
  refine wp_region (show wpOps _ _ _ [0, 1] _ _ from ?_)
  refine opL 0 2 (v := .int .i64 0) (w' := w) (by kernel_rfl) (frZ hs) ?_ ?_
  · exact frY rfl (k_assign rfl rfl)
  refine frN1 hs hd h0 ?_; clear hs hd h0; intro a hs hd h0 h2
  refine opL 1 3 (v := .bool false) (w' := w) (by kernel_rfl) (frZ hs) ?_ ?_
  · exact frY rfl (k_assign rfl rfl)
  revert hs hd h0 h2; refine frM2 ?_; intro a hs hd h0 h2 h3
  refine wp_seq ?_
  refine wp_seq ?_
  refine wp_region (show wpOps _ _ _ [0, 1, 2] _ _ from ?_)
  refine opL 0 4 (v := .string ⟨#[b0, b1, b2, b3, b4, b5, b6, b7]⟩) (w' := w) (by kernel_rfl) (frZ hs) ?_ ?_
  · exact frY rfl (k_move rfl (ev_tmp h0))
  revert hs hd h0 h2 h3; refine frM3 ?_; intro a hs hd h0 h2 h3 h4
  refine opL 1 5 (v := .int .i64 8) (w' := w) (by kernel_rfl) (frZ hs) ?_ ?_
  · exact frY rfl (k_lenS9 rfl (ev_tmp h4))
  clear h4; revert hs hd h0 h2 h3; refine frM3 ?_; intro a hs hd h0 h2 h3 h5
  refine opL 2 6 (v := .bool false) (w' := w) (by kernel_rfl) (frZ hs) ?_ ?_
  · exact frY rfl (o_neI rfl (ev_tmp h5) rfl rfl)
  clear h5; revert hs hd h0 h2 h3; refine frM3 ?_; intro a hs hd h0 h2 h3 h6
  refine wp_cond_false (ev_tmp h6) ?_
  refine wp_skip ?_
  refine wp_seq ?_
  refine wp_region_held_drew (S := fun w' => Below w.heap.size w w') (by kernel_rfl) (below_drew (Below.refl _ _)) (fun hH => ?_)
  obtain ⟨u0, hu⟩ : ∃ u0, u0 = w.drew := ⟨_, rfl⟩
  rw [← hu] at hH ⊢
  clear hu
  refine heldL 0 7 (v := .string ⟨#[b0, b1, b2, b3, b4, b5, b6, b7]⟩) hQ (by kernel_rfl) (frZ hs) (by kernel_rfl) (by kernel_rfl) (by kernel_rfl) hH ?z533 ?z534
  case z533 => (intro o ho; obtain rfl := Option.some.inj ho; exact Or.inl ⟨rfl, fun w1 h1w => k_move rfl (ev_tmp h0)⟩)
  case z534 =>
  refine frN4 hs hd h0 h2 h3 h6 ?_; clear hs hd h0 h2 h3 h6; intro a hs hd h0 h2 h3 h6 h7
  refine heldL 1 8 (v := .string ⟨#[b0, b1, b2, b3]⟩) hQ (by kernel_rfl) (frZ hs) (by kernel_rfl) (by kernel_rfl) (by kernel_rfl) hH ?z535 ?z536
  case z535 => (intro o ho; obtain rfl := Option.some.inj ho; exact Or.inl ⟨rfl, fun w1 h1w => ((k_sl4 rfl (ev_tmp h7) rfl rfl).trans (by rw [show ByteArray.extract _ _ _ = ⟨#[b0, b1, b2, b3]⟩ from (ext_list (by rw [Lib.extract_data]; rfl))]))⟩)
  case z536 =>
  refine frN5 hs hd h0 h2 h3 h6 h7 ?_; clear hs hd h0 h2 h3 h6 h7; intro a hs hd h0 h2 h3 h6 h7 h8
  refine heldL 2 9 (v := .string ⟨#[b0, b1, b2, b3, 45]⟩) hQ (by kernel_rfl) (frZ hs) (by kernel_rfl) (by kernel_rfl) (by kernel_rfl) hH ?z537 ?z538
  case z537 => (intro o ho; obtain rfl := Option.some.inj ho; exact Or.inl ⟨rfl, fun w1 h1w => o_addStr rfl (ev_tmp h8) rfl (Nat.le_of_ble_eq_true rfl) (ext_list rfl)⟩)
  case z538 =>
  refine frN6 hs hd h0 h2 h3 h6 h7 h8 ?_; clear hs hd h0 h2 h3 h6 h7 h8; intro a hs hd h0 h2 h3 h6 h7 h8 h9
  refine heldL 3 10 (v := .string ⟨#[b0, b1, b2, b3, b4, b5, b6, b7]⟩) hQ (by kernel_rfl) (frZ hs) (by kernel_rfl) (by kernel_rfl) (by kernel_rfl) hH ?z539 ?z540
  case z539 => (intro o ho; obtain rfl := Option.some.inj ho; exact Or.inl ⟨rfl, fun w1 h1w => k_move rfl (ev_tmp h0)⟩)
  case z540 =>
  refine frN7 hs hd h0 h2 h3 h6 h7 h8 h9 ?_; clear hs hd h0 h2 h3 h6 h7 h8 h9; intro a hs hd h0 h2 h3 h6 h7 h8 h9 h10
  refine heldL 4 11 (v := .string ⟨#[b4, b5]⟩) hQ (by kernel_rfl) (frZ hs) (by kernel_rfl) (by kernel_rfl) (by kernel_rfl) hH ?z541 ?z542
  case z541 => (intro o ho; obtain rfl := Option.some.inj ho; exact Or.inl ⟨rfl, fun w1 h1w => ((k_sl46 rfl (ev_tmp h10) rfl rfl rfl).trans (by rw [show ByteArray.extract _ _ _ = ⟨#[b4, b5]⟩ from (ext_list (by rw [Lib.extract_data]; rfl))]))⟩)
  case z542 =>
  refine frN8 hs hd h0 h2 h3 h6 h7 h8 h9 h10 ?_; clear hs hd h0 h2 h3 h6 h7 h8 h9 h10; intro a hs hd h0 h2 h3 h6 h7 h8 h9 h10 h11
  refine heldL 5 12 (v := .string ⟨#[b0, b1, b2, b3, 45, b4, b5]⟩) hQ (by kernel_rfl) (frZ hs) (by kernel_rfl) (by kernel_rfl) (by kernel_rfl) hH ?z543 ?z544
  case z543 => (intro o ho; obtain rfl := Option.some.inj ho; exact Or.inl ⟨rfl, fun w1 h1w => o_addStr rfl (ev_tmp h9) (ev_tmp h11) (Nat.le_of_ble_eq_true rfl) (ext_list rfl)⟩)
  case z544 =>
  refine frN9 hs hd h0 h2 h3 h6 h7 h8 h9 h10 h11 ?_; clear hs hd h0 h2 h3 h6 h7 h8 h9 h10 h11; intro a hs hd h0 h2 h3 h6 h7 h8 h9 h10 h11 h12
  refine heldL 6 13 (v := .string ⟨#[b0, b1, b2, b3, 45, b4, b5, 45]⟩) hQ (by kernel_rfl) (frZ hs) (by kernel_rfl) (by kernel_rfl) (by kernel_rfl) hH ?z545 ?z546
  case z545 => (intro o ho; obtain rfl := Option.some.inj ho; exact Or.inl ⟨rfl, fun w1 h1w => o_addStr rfl (ev_tmp h12) rfl (Nat.le_of_ble_eq_true rfl) (ext_list rfl)⟩)
  case z546 =>
  refine frN10 hs hd h0 h2 h3 h6 h7 h8 h9 h10 h11 h12 ?_; clear hs hd h0 h2 h3 h6 h7 h8 h9 h10 h11 h12; intro a hs hd h0 h2 h3 h6 h7 h8 h9 h10 h11 h12 h13
  refine heldL 7 14 (v := .string ⟨#[b0, b1, b2, b3, b4, b5, b6, b7]⟩) hQ (by kernel_rfl) (frZ hs) (by kernel_rfl) (by kernel_rfl) (by kernel_rfl) hH ?z547 ?z548
  case z547 => (intro o ho; obtain rfl := Option.some.inj ho; exact Or.inl ⟨rfl, fun w1 h1w => k_move rfl (ev_tmp h0)⟩)
  case z548 =>
  refine frN11 hs hd h0 h2 h3 h6 h7 h8 h9 h10 h11 h12 h13 ?_; clear hs hd h0 h2 h3 h6 h7 h8 h9 h10 h11 h12 h13; intro a hs hd h0 h2 h3 h6 h7 h8 h9 h10 h11 h12 h13 h14
  refine heldL 8 15 (v := .string ⟨#[b6, b7]⟩) hQ (by kernel_rfl) (frZ hs) (by kernel_rfl) (by kernel_rfl) (by kernel_rfl) hH ?z549 ?z550
  case z549 => (intro o ho; obtain rfl := Option.some.inj ho; exact Or.inl ⟨rfl, fun w1 h1w => ((k_sl6 rfl (ev_tmp h14) rfl rfl).trans (by rw [show ByteArray.extract _ _ _ = ⟨#[b6, b7]⟩ from (ext_list (by rw [Lib.extract_data]; rfl))]))⟩)
  case z550 =>
  refine frN12 hs hd h0 h2 h3 h6 h7 h8 h9 h10 h11 h12 h13 h14 ?_; clear hs hd h0 h2 h3 h6 h7 h8 h9 h10 h11 h12 h13 h14; intro a hs hd h0 h2 h3 h6 h7 h8 h9 h10 h11 h12 h13 h14 h15
  refine heldL 9 16 (v := .string ⟨#[b0, b1, b2, b3, 45, b4, b5, 45, b6, b7]⟩) hQ (by kernel_rfl) (frZ hs) (by kernel_rfl) (by kernel_rfl) (by kernel_rfl) hH ?z551 ?z552
  case z551 => (intro o ho; obtain rfl := Option.some.inj ho; exact Or.inl ⟨rfl, fun w1 h1w => o_addStr rfl (ev_tmp h13) (ev_tmp h15) (Nat.le_of_ble_eq_true rfl) (ext_list rfl)⟩)
  case z552 =>
  refine frN13 hs hd h0 h2 h3 h6 h7 h8 h9 h10 h11 h12 h13 h14 h15 ?_; clear hs hd h0 h2 h3 h6 h7 h8 h9 h10 h11 h12 h13 h14 h15; intro a hs hd h0 h2 h3 h6 h7 h8 h9 h10 h11 h12 h13 h14 h15 h16
  have hc := civil_any b0 b1 b2 b3 b4 b5 b6 b7 u0 (hT.below hH)
  have hx := fun ops Q S fuel listed d a i h0 h1 h2 h3 => heldL_call (P := Tryz.prog) (ops := ops) (Q := Q) (S := S) (fuel := fuel) (listed := listed) (a := a) (w := u0) i d h0 h1 h2 h3 hc
  refine hx _ _ _ _ _ 17 _ 10 ?z553 ?z554 ?z555 ?z556 ?z557 ?z558
  case z553 => kernel_rfl
  case z554 => kernel_rfl
  case z555 => (rw [hs]; decide)
  case z556 => exact frY rfl (c_pDay rfl rfl (ev_tmp h16))
  case z557 => (rintro _ _ ⟨rfl, l⟩; exact hH.trans (l.mono hH.size))
  case z558 =>
  clear hx hc
  rintro _ u1 a ⟨rfl, l⟩ F0
  replace hs := F0.z.trans hs
  replace hd := F0.e.trans hd
  replace h0 := (F0.n 0 (by decide)).trans h0
  replace h2 := (F0.n 2 (by decide)).trans h2
  replace h3 := (F0.n 3 (by decide)).trans h3
  replace h6 := (F0.n 6 (by decide)).trans h6
  replace h7 := (F0.n 7 (by decide)).trans h7
  replace h8 := (F0.n 8 (by decide)).trans h8
  replace h9 := (F0.n 9 (by decide)).trans h9
  replace h10 := (F0.n 10 (by decide)).trans h10
  replace h11 := (F0.n 11 (by decide)).trans h11
  replace h12 := (F0.n 12 (by decide)).trans h12
  replace h13 := (F0.n 13 (by decide)).trans h13
  replace h14 := (F0.n 14 (by decide)).trans h14
  replace h15 := (F0.n 15 (by decide)).trans h15
  replace h16 := (F0.n 16 (by decide)).trans h16
  have h17 := F0.s
  clear F0
  replace hH := hH.trans (l.mono hH.size)
  clear l
  refine heldL 11 18 (v := .int .i64 ((Rfc.pday [b0, b1, b2, b3, b4, b5, b6, b7]).getD 0)) hQ (by kernel_rfl) (frZ hs) (by kernel_rfl) (by kernel_rfl) (by kernel_rfl) hH ?z559 ?z560
  case z559 => (intro o ho; obtain rfl := Option.some.inj ho; exact Or.inl ⟨rfl, fun w1 h1w => k_extract rfl (ev_tmp h17) rfl⟩)
  case z560 =>
  refine frN15 hs hd h0 h2 h3 h6 h7 h8 h9 h10 h11 h12 h13 h14 h15 h16 h17 ?_; clear hs hd h0 h2 h3 h6 h7 h8 h9 h10 h11 h12 h13 h14 h15 h16 h17; intro a hs hd h0 h2 h3 h6 h7 h8 h9 h10 h11 h12 h13 h14 h15 h16 h17 h18
  refine heldL 12 19 (v := .bool (Rfc.pday [b0, b1, b2, b3, b4, b5, b6, b7]).isSome) hQ (by kernel_rfl) (frZ hs) (by kernel_rfl) (by kernel_rfl) (by kernel_rfl) hH ?z561 ?z562
  case z561 => (intro o ho; obtain rfl := Option.some.inj ho; exact Or.inl ⟨rfl, fun w1 h1w => k_extract rfl (ev_tmp h17) rfl⟩)
  case z562 =>
  refine frN16 hs hd h0 h2 h3 h6 h7 h8 h9 h10 h11 h12 h13 h14 h15 h16 h17 h18 ?_; clear hs hd h0 h2 h3 h6 h7 h8 h9 h10 h11 h12 h13 h14 h15 h16 h17 h18; intro a hs hd h0 h2 h3 h6 h7 h8 h9 h10 h11 h12 h13 h14 h15 h16 h17 h18 h19
  refine heldL 13 2 (v := .int .i64 ((Rfc.pday [b0, b1, b2, b3, b4, b5, b6, b7]).getD 0)) hQ (by kernel_rfl) (frZ hs) (by kernel_rfl) (by kernel_rfl) (by kernel_rfl) hH ?z563 ?z564
  case z563 => (intro o ho; obtain rfl := Option.some.inj ho; exact Or.inl ⟨rfl, fun w1 h1w => k_assign rfl (ev_tmp h18)⟩)
  case z564 =>
  refine frN16 hs hd h0 h3 h6 h7 h8 h9 h10 h11 h12 h13 h14 h15 h16 h17 h18 h19 ?_; clear hs hd h0 h3 h6 h7 h8 h9 h10 h11 h12 h13 h14 h15 h16 h17 h18 h19 h2; intro a hs hd h0 h3 h6 h7 h8 h9 h10 h11 h12 h13 h14 h15 h16 h17 h18 h19 h2
  refine heldL 14 3 (v := .bool (Rfc.pday [b0, b1, b2, b3, b4, b5, b6, b7]).isSome) hQ (by kernel_rfl) (frZ hs) (by kernel_rfl) (by kernel_rfl) (by kernel_rfl) hH ?z565 ?z566
  case z565 => (intro o ho; obtain rfl := Option.some.inj ho; exact Or.inl ⟨rfl, fun w1 h1w => k_assign rfl (ev_tmp h19)⟩)
  case z566 =>
  refine frN16 hs hd h0 h6 h7 h8 h9 h10 h11 h12 h13 h14 h15 h16 h17 h18 h19 h2 ?_; clear hs hd h0 h6 h7 h8 h9 h10 h11 h12 h13 h14 h15 h16 h17 h18 h19 h2 h3; intro a hs hd h0 h6 h7 h8 h9 h10 h11 h12 h13 h14 h15 h16 h17 h18 h19 h2 h3
  refine wpAnyH_done (by kernel_rfl) ?_ _
  refine wp_ret ?_
  exact hfin a _ _ _ hd h2 h3 rfl hH

theorem pd_any (s : List UInt8) (w : World) (hT : Tabs w) :
    Calls Tryz.prog 47 #[.string ⟨s.toArray⟩] w fun e w' => ∃ v, e = .returned v ∧ v = ov (Rfc.pday s) ∧ Below w.heap.size w w' := by
  by_cases h8 : s.length = 8
  · obtain ⟨b0, b1, b2, b3, b4, b5, b6, b7, rfl⟩ := eight s h8
    exact pd_eight b0 b1 b2 b3 b4 b5 b6 b7 w hT
  · exact pd_short s w h8
end Go.Proofs.YtjdjekpbjnkliaaGreatDoor
