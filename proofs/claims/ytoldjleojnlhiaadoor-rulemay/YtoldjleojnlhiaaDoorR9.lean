/-
  The law's Check: the region that asks whether a number is out of range, over a frame that is a letter.
-/
import Derived.Test.YtoldjleojnlhiaaDoorR7a
namespace Go.Proofs.YtoldjleojnlhiaaDoor
open Go.RowKit
noncomputable def ops24 : Array Oper := (Tryd.f14.body.bind (regOf 24)).getD #[]

set_option maxRecDepth 100000 in
set_option maxHeartbeats 1000000 in
theorem reg24_0out (a : Act) (w : World) (Q : Exit → Act → World → Prop) (hQ : Blind Q) (ad : Addr) (n cap i : Nat) (x : Int) (hs : a.tmps.size = 236) (h3 : a.tmps.getD 3 undef = .int .i64 0) (h4 : a.tmps.getD 4 undef = .slice (some ad) n cap) (h6 : a.tmps.getD 6 undef = .int .i64 i)
    (hi : i < n) (hc : w.cell? (ad.add i) = some (.int .i64 x)) (hcx : ∀ o, (w.alloc o).cell? (ad.add i) = some (.int .i64 x)) (HO : Hid (out x 12 = true))
    (hR : ∀ t o, Keep 165 184 7 a.tmps t → t.getD 7 undef = .bool true → Q .normal ⟨t, a.defers⟩ (w.alloc o).drew) :
    (Code.region 24 ops24 true).wp Tryd.prog Q a w := by
  have g3 := getD_at h3
  have g4 := getD_at h4
  have g6 := getD_at h6
  conv => arg 2; arg 2; whnf
  refine wp_region_held_drew (S := (fun w' => w'.cell? (ad.add i) = some (.int .i64 x))) (by kernel_rfl) ?q1 (fun hHeld => ?q2)
  case q1 => (first | exact hc | assumption)
  case q2 =>
  refine step_take 0 165 (v := .slice (some ad) n cap) hQ (by kernel_rfl) (by kernel_rfl) (by kernel_rfl) (by kernel_rfl) (by assumption) ?q3 ?q4
  case q3 => (intro o ho; obtain rfl := Option.some.inj ho; refine Or.inl ⟨by rfl, ?_⟩; intro w hSw; (try dsimp only at hSw); go_simp; (try simp [put_get, put_ne, put_size, hs]); (try with_reducible rfl); (try omega))
  case q4 =>
  refine step_take 1 166 (v := .int .i64 i) hQ (by kernel_rfl) (by kernel_rfl) (by kernel_rfl) (by kernel_rfl) (by assumption) ?q5 ?q6
  case q5 => (intro o ho; obtain rfl := Option.some.inj ho; refine Or.inl ⟨by rfl, ?_⟩; intro w hSw; (try dsimp only at hSw); go_simp; (try simp [put_get, put_ne, put_size, hs]); (try with_reducible rfl); (try omega))
  case q6 =>
  refine step_take 5 170 (v := .int .i64 0) hQ (by kernel_rfl) (by kernel_rfl) (by kernel_rfl) (by kernel_rfl) (by assumption) ?q7 ?q8
  case q7 => (intro o ho; obtain rfl := Option.some.inj ho; refine Or.inl ⟨by rfl, ?_⟩; intro w hSw; (try dsimp only at hSw); go_simp; (try simp [put_get, put_ne, put_size, hs]); (try with_reducible rfl); (try omega))
  case q8 =>
  refine step_take 2 167 (v := .pointer (some (ad.add i))) hQ (by kernel_rfl) (by kernel_rfl) (by kernel_rfl) (by kernel_rfl) (by assumption) ?q9 ?q10
  case q9 => (intro o ho; obtain rfl := Option.some.inj ho; refine Or.inl ⟨by rfl, ?_⟩; intro w hSw; (try dsimp only at hSw); go_simp; (try simp [put_get, put_ne, put_size, hs]); (try with_reducible rfl); (try omega))
  case q10 =>
  refine step_take 3 168 (v := .int .i64 x) hQ (by kernel_rfl) (by kernel_rfl) (by kernel_rfl) (by kernel_rfl) (by assumption) ?q11 ?q12
  case q11 => (intro o ho; obtain rfl := Option.some.inj ho; refine Or.inl ⟨by rfl, ?_⟩; intro w hSw; (try dsimp only at hSw); go_simp; (try simp [put_get, put_ne, put_size, hs]); (try with_reducible rfl); (try omega))
  case q12 =>
  refine step_do 4 (by kernel_rfl) ?q13
  case q13 =>
  intro o ho K hK
  obtain rfl := Option.some.inj ho
  go_simp
  refine hK.out _ _ ?q14 (fun hHeld => ?q15)
  case q14 => (first | assumption | exact hcx _)
  case q15 =>
  clear hK K
  refine step_take 6 171 (v := .pointer (some ⟨w.heap.size, 0, none⟩)) hQ (by kernel_rfl) (by kernel_rfl) (by kernel_rfl) (by kernel_rfl) (by assumption) ?q16 ?q17
  case q16 => (intro o ho; obtain rfl := Option.some.inj ho; refine Or.inl ⟨by rfl, ?_⟩; intro w hSw; (try dsimp only at hSw); go_simp; (try simp [put_get, put_ne, put_size, hs]); (try with_reducible rfl); (try omega))
  case q17 =>
  refine step_do 7 (by kernel_rfl) ?q18
  case q18 =>
  intro o ho K hK
  obtain rfl := Option.some.inj ho
  go_simp
  refine hK.out _ _ ?q19 (fun hHeld => ?q20)
  case q19 => (first | assumption | exact hcx _)
  case q20 =>
  clear hK K
  refine step_do 8 (by kernel_rfl) ?q21
  case q21 =>
  intro o ho K hK
  obtain rfl := Option.some.inj ho
  (go_simp; go_at_call 28; refine (outside_any _ _ _ (by omega) (by omega)).mono ?_; rintro e w' ⟨rfl, rfl⟩; rw [HO.out]; go_wp2_with fail)
  refine hK.out _ _ ?q22 (fun hHeld => ?q23)
  case q22 => (first | assumption | exact hcx _)
  case q23 =>
  clear hK K
  refine step_take 9 174 (v := .bool true) hQ (by kernel_rfl) (by kernel_rfl) (by kernel_rfl) (by kernel_rfl) (by assumption) ?q24 ?q25
  case q24 => (intro o ho; obtain rfl := Option.some.inj ho; refine Or.inl ⟨by rfl, ?_⟩; intro w hSw; (try dsimp only at hSw); go_simp; (try simp [put_get, put_ne, put_size, hs]); (try with_reducible rfl); (try omega))
  case q25 =>
  refine step_skip 10 175 hQ (by kernel_rfl) (by kernel_rfl) (by kernel_rfl) (by kernel_rfl) (by assumption) ?q26 ?q27
  case q26 => (intro o ho; obtain rfl := Option.some.inj ho; go_simp; (try simp [put_get, put_ne, put_size, hs]); (try exact (show ¬ ((none : Option Bool) = some true) by simp)))
  case q27 =>
  refine step_skip 11 176 hQ (by kernel_rfl) (by kernel_rfl) (by kernel_rfl) (by kernel_rfl) (by assumption) ?q28 ?q29
  case q28 => (intro o ho; obtain rfl := Option.some.inj ho; go_simp; (try simp [put_get, put_ne, put_size, hs]); (try exact (show ¬ ((none : Option Bool) = some true) by simp)))
  case q29 =>
  refine step_skip 12 177 hQ (by kernel_rfl) (by kernel_rfl) (by kernel_rfl) (by kernel_rfl) (by assumption) ?q30 ?q31
  case q30 => (intro o ho; obtain rfl := Option.some.inj ho; go_simp; (try simp [put_get, put_ne, put_size, hs]); (try exact (show ¬ ((none : Option Bool) = some true) by simp)))
  case q31 =>
  refine step_skip 13 178 hQ (by kernel_rfl) (by kernel_rfl) (by kernel_rfl) (by kernel_rfl) (by assumption) ?q32 ?q33
  case q32 => (intro o ho; obtain rfl := Option.some.inj ho; go_simp; (try simp [put_get, put_ne, put_size, hs]); (try exact (show ¬ ((none : Option Bool) = some true) by simp)))
  case q33 =>
  refine step_skip 14 179 hQ (by kernel_rfl) (by kernel_rfl) (by kernel_rfl) (by kernel_rfl) (by assumption) ?q34 ?q35
  case q34 => (intro o ho; obtain rfl := Option.some.inj ho; go_simp; (try simp [put_get, put_ne, put_size, hs]); (try exact (show ¬ ((none : Option Bool) = some true) by simp)))
  case q35 =>
  refine step_skip 15 180 hQ (by kernel_rfl) (by kernel_rfl) (by kernel_rfl) (by kernel_rfl) (by assumption) ?q36 ?q37
  case q36 => (intro o ho; obtain rfl := Option.some.inj ho; go_simp; (try simp [put_get, put_ne, put_size, hs]); (try exact (show ¬ ((none : Option Bool) = some true) by simp)))
  case q37 =>
  refine step_skip 16 181 hQ (by kernel_rfl) (by kernel_rfl) (by kernel_rfl) (by kernel_rfl) (by assumption) ?q38 ?q39
  case q38 => (intro o ho; obtain rfl := Option.some.inj ho; go_simp; (try simp [put_get, put_ne, put_size, hs]); (try exact (show ¬ ((none : Option Bool) = some true) by simp)))
  case q39 =>
  refine step_skip 17 182 hQ (by kernel_rfl) (by kernel_rfl) (by kernel_rfl) (by kernel_rfl) (by assumption) ?q40 ?q41
  case q40 => (intro o ho; obtain rfl := Option.some.inj ho; go_simp; (try simp [put_get, put_ne, put_size, hs]); (try exact (show ¬ ((none : Option Bool) = some true) by simp)))
  case q41 =>
  refine step_skip 18 183 hQ (by kernel_rfl) (by kernel_rfl) (by kernel_rfl) (by kernel_rfl) (by assumption) ?q42 ?q43
  case q42 => (intro o ho; obtain rfl := Option.some.inj ho; go_simp; (try simp [put_get, put_ne, put_size, hs]); (try exact (show ¬ ((none : Option Bool) = some true) by simp)))
  case q43 =>
  refine step_take 19 184 (v := .bool true) hQ (by kernel_rfl) (by kernel_rfl) (by kernel_rfl) (by kernel_rfl) (by assumption) ?q44 ?q45
  case q44 => (intro o ho; obtain rfl := Option.some.inj ho; refine Or.inl ⟨by rfl, ?_⟩; intro w hSw; (try dsimp only at hSw); go_simp; (try simp [put_get, put_ne, put_size, hs]); (try with_reducible rfl); (try omega))
  case q45 =>
  refine step_take 20 7 (v := .bool true) hQ (by kernel_rfl) (by kernel_rfl) (by kernel_rfl) (by kernel_rfl) (by assumption) ?q46 ?q47
  case q46 => (intro o ho; obtain rfl := Option.some.inj ho; refine Or.inl ⟨by rfl, ?_⟩; intro w hSw; (try dsimp only at hSw); go_simp; (try simp [put_get, put_ne, put_size, hs]); (try with_reducible rfl); (try omega))
  case q47 =>
  refine wpAnyH_done (by kernel_rfl) ?_ _
  simp only [Act.put]
  refine hR _ _ ?_ (set_get (by simp [hs]))
  repeat (with_reducible refine Keep.set ?_ _ _ (by decide))
  with_reducible exact Keep.refl _ _ _ _

set_option maxRecDepth 100000 in
set_option maxHeartbeats 1000000 in
theorem reg24_0neg (a : Act) (w : World) (Q : Exit → Act → World → Prop) (hQ : Blind Q) (ad : Addr) (n cap i : Nat) (x : Int) (hs : a.tmps.size = 236) (h3 : a.tmps.getD 3 undef = .int .i64 0) (h4 : a.tmps.getD 4 undef = .slice (some ad) n cap) (h6 : a.tmps.getD 6 undef = .int .i64 i)
    (hi : i < n) (hc : w.cell? (ad.add i) = some (.int .i64 x)) (hcx : ∀ o, (w.alloc o).cell? (ad.add i) = some (.int .i64 x)) (HO : Hid (out x 12 = false)) (hx : x < 0)
    (hR : ∀ t o, Keep 165 184 7 a.tmps t → t.getD 7 undef = .bool true → Q .normal ⟨t, a.defers⟩ (w.alloc o).drew) :
    (Code.region 24 ops24 true).wp Tryd.prog Q a w := by
  have g3 := getD_at h3
  have g4 := getD_at h4
  have g6 := getD_at h6
  conv => arg 2; arg 2; whnf
  refine wp_region_held_drew (S := (fun w' => w'.cell? (ad.add i) = some (.int .i64 x))) (by kernel_rfl) ?q48 (fun hHeld => ?q49)
  case q48 => (first | exact hc | assumption)
  case q49 =>
  refine step_take 0 165 (v := .slice (some ad) n cap) hQ (by kernel_rfl) (by kernel_rfl) (by kernel_rfl) (by kernel_rfl) (by assumption) ?q50 ?q51
  case q50 => (intro o ho; obtain rfl := Option.some.inj ho; refine Or.inl ⟨by rfl, ?_⟩; intro w hSw; (try dsimp only at hSw); go_simp; (try simp [put_get, put_ne, put_size, hs]); (try with_reducible rfl); (try omega))
  case q51 =>
  refine step_take 1 166 (v := .int .i64 i) hQ (by kernel_rfl) (by kernel_rfl) (by kernel_rfl) (by kernel_rfl) (by assumption) ?q52 ?q53
  case q52 => (intro o ho; obtain rfl := Option.some.inj ho; refine Or.inl ⟨by rfl, ?_⟩; intro w hSw; (try dsimp only at hSw); go_simp; (try simp [put_get, put_ne, put_size, hs]); (try with_reducible rfl); (try omega))
  case q53 =>
  refine step_take 5 170 (v := .int .i64 0) hQ (by kernel_rfl) (by kernel_rfl) (by kernel_rfl) (by kernel_rfl) (by assumption) ?q54 ?q55
  case q54 => (intro o ho; obtain rfl := Option.some.inj ho; refine Or.inl ⟨by rfl, ?_⟩; intro w hSw; (try dsimp only at hSw); go_simp; (try simp [put_get, put_ne, put_size, hs]); (try with_reducible rfl); (try omega))
  case q55 =>
  refine step_take 2 167 (v := .pointer (some (ad.add i))) hQ (by kernel_rfl) (by kernel_rfl) (by kernel_rfl) (by kernel_rfl) (by assumption) ?q56 ?q57
  case q56 => (intro o ho; obtain rfl := Option.some.inj ho; refine Or.inl ⟨by rfl, ?_⟩; intro w hSw; (try dsimp only at hSw); go_simp; (try simp [put_get, put_ne, put_size, hs]); (try with_reducible rfl); (try omega))
  case q57 =>
  refine step_take 3 168 (v := .int .i64 x) hQ (by kernel_rfl) (by kernel_rfl) (by kernel_rfl) (by kernel_rfl) (by assumption) ?q58 ?q59
  case q58 => (intro o ho; obtain rfl := Option.some.inj ho; refine Or.inl ⟨by rfl, ?_⟩; intro w hSw; (try dsimp only at hSw); go_simp; (try simp [put_get, put_ne, put_size, hs]); (try with_reducible rfl); (try omega))
  case q59 =>
  refine step_do 4 (by kernel_rfl) ?q60
  case q60 =>
  intro o ho K hK
  obtain rfl := Option.some.inj ho
  go_simp
  refine hK.out _ _ ?q61 (fun hHeld => ?q62)
  case q61 => (first | assumption | exact hcx _)
  case q62 =>
  clear hK K
  refine step_take 6 171 (v := .pointer (some ⟨w.heap.size, 0, none⟩)) hQ (by kernel_rfl) (by kernel_rfl) (by kernel_rfl) (by kernel_rfl) (by assumption) ?q63 ?q64
  case q63 => (intro o ho; obtain rfl := Option.some.inj ho; refine Or.inl ⟨by rfl, ?_⟩; intro w hSw; (try dsimp only at hSw); go_simp; (try simp [put_get, put_ne, put_size, hs]); (try with_reducible rfl); (try omega))
  case q64 =>
  refine step_do 7 (by kernel_rfl) ?q65
  case q65 =>
  intro o ho K hK
  obtain rfl := Option.some.inj ho
  go_simp
  refine hK.out _ _ ?q66 (fun hHeld => ?q67)
  case q66 => (first | assumption | exact hcx _)
  case q67 =>
  clear hK K
  refine step_do 8 (by kernel_rfl) ?q68
  case q68 =>
  intro o ho K hK
  obtain rfl := Option.some.inj ho
  (go_simp; go_at_call 28; refine (outside_any _ _ _ (by omega) (by omega)).mono ?_; rintro e w' ⟨rfl, rfl⟩; rw [HO.out]; go_wp2_with fail)
  refine hK.out _ _ ?q69 (fun hHeld => ?q70)
  case q69 => (first | assumption | exact hcx _)
  case q70 =>
  clear hK K
  refine step_take 9 174 (v := .bool false) hQ (by kernel_rfl) (by kernel_rfl) (by kernel_rfl) (by kernel_rfl) (by assumption) ?q71 ?q72
  case q71 => (intro o ho; obtain rfl := Option.some.inj ho; refine Or.inl ⟨by rfl, ?_⟩; intro w hSw; (try dsimp only at hSw); go_simp; (try simp [put_get, put_ne, put_size, hs]); (try with_reducible rfl); (try omega))
  case q72 =>
  refine step_take 10 175 (v := .int .i64 0) hQ (by kernel_rfl) (by kernel_rfl) (by kernel_rfl) (by kernel_rfl) (by assumption) ?q73 ?q74
  case q73 => (intro o ho; obtain rfl := Option.some.inj ho; refine Or.inl ⟨by go_simp, ?_⟩; intro w hSw; (try dsimp only at hSw); go_simp; (try simp [put_get, put_ne, put_size, hs]); (try with_reducible rfl); (try omega))
  case q74 =>
  refine step_take 11 176 (v := .bool true) hQ (by kernel_rfl) (by kernel_rfl) (by kernel_rfl) (by kernel_rfl) (by assumption) ?q75 ?q76
  case q75 => (intro o ho; obtain rfl := Option.some.inj ho; refine Or.inl ⟨by go_simp, ?_⟩; intro w hSw; (try dsimp only at hSw); go_simp; (try simp [put_get, put_ne, put_size, hs]); (try with_reducible rfl); (try omega))
  case q76 =>
  refine step_take 12 177 (v := .bool true) hQ (by kernel_rfl) (by kernel_rfl) (by kernel_rfl) (by kernel_rfl) (by assumption) ?q77 ?q78
  case q77 => (intro o ho; obtain rfl := Option.some.inj ho; refine Or.inl ⟨by go_simp, ?_⟩; intro w hSw; (try dsimp only at hSw); go_simp; (try simp [put_get, put_ne, put_size, hs]); (try with_reducible rfl); (try omega))
  case q78 =>
  refine step_take 13 178 (v := .slice (some ad) n cap) hQ (by kernel_rfl) (by kernel_rfl) (by kernel_rfl) (by kernel_rfl) (by assumption) ?q79 ?q80
  case q79 => (intro o ho; obtain rfl := Option.some.inj ho; refine Or.inl ⟨by go_simp, ?_⟩; intro w hSw; (try dsimp only at hSw); go_simp; (try simp [put_get, put_ne, put_size, hs]); (try with_reducible rfl); (try omega))
  case q80 =>
  refine step_take 14 179 (v := .int .i64 i) hQ (by kernel_rfl) (by kernel_rfl) (by kernel_rfl) (by kernel_rfl) (by assumption) ?q81 ?q82
  case q81 => (intro o ho; obtain rfl := Option.some.inj ho; refine Or.inl ⟨by go_simp, ?_⟩; intro w hSw; (try dsimp only at hSw); go_simp; (try simp [put_get, put_ne, put_size, hs]); (try with_reducible rfl); (try omega))
  case q82 =>
  refine step_take 15 180 (v := .pointer (some (ad.add i))) hQ (by kernel_rfl) (by kernel_rfl) (by kernel_rfl) (by kernel_rfl) (by assumption) ?q83 ?q84
  case q83 => (intro o ho; obtain rfl := Option.some.inj ho; refine Or.inl ⟨by go_simp, ?_⟩; intro w hSw; (try dsimp only at hSw); go_simp; (try simp [put_get, put_ne, put_size, hs]); (try with_reducible rfl); (try omega))
  case q84 =>
  refine step_take 16 181 (v := .int .i64 x) hQ (by kernel_rfl) (by kernel_rfl) (by kernel_rfl) (by kernel_rfl) (by assumption) ?q85 ?q86
  case q85 => (intro o ho; obtain rfl := Option.some.inj ho; refine Or.inl ⟨by go_simp, ?_⟩; intro w hSw; (try dsimp only at hSw); go_simp; (try simp [put_get, put_ne, put_size, hs]); (try with_reducible rfl); (try omega))
  case q86 =>
  refine step_take 17 182 (v := .bool true) hQ (by kernel_rfl) (by kernel_rfl) (by kernel_rfl) (by kernel_rfl) (by assumption) ?q87 ?q88
  case q87 => (intro o ho; obtain rfl := Option.some.inj ho; refine Or.inl ⟨by go_simp, ?_⟩; intro w hSw; (try dsimp only at hSw); go_simp; (try simp [put_get, put_ne, put_size, hs]); (try with_reducible rfl); (try omega))
  case q88 =>
  refine step_take 18 183 (v := .bool true) hQ (by kernel_rfl) (by kernel_rfl) (by kernel_rfl) (by kernel_rfl) (by assumption) ?q89 ?q90
  case q89 => (intro o ho; obtain rfl := Option.some.inj ho; refine Or.inl ⟨by go_simp, ?_⟩; intro w hSw; (try dsimp only at hSw); go_simp; (try simp [put_get, put_ne, put_size, hs]); (try with_reducible rfl); (try omega))
  case q90 =>
  refine step_take 19 184 (v := .bool true) hQ (by kernel_rfl) (by kernel_rfl) (by kernel_rfl) (by kernel_rfl) (by assumption) ?q91 ?q92
  case q91 => (intro o ho; obtain rfl := Option.some.inj ho; refine Or.inl ⟨by rfl, ?_⟩; intro w hSw; (try dsimp only at hSw); go_simp; (try simp [put_get, put_ne, put_size, hs]); (try with_reducible rfl); (try omega))
  case q92 =>
  refine step_take 20 7 (v := .bool true) hQ (by kernel_rfl) (by kernel_rfl) (by kernel_rfl) (by kernel_rfl) (by assumption) ?q93 ?q94
  case q93 => (intro o ho; obtain rfl := Option.some.inj ho; refine Or.inl ⟨by rfl, ?_⟩; intro w hSw; (try dsimp only at hSw); go_simp; (try simp [put_get, put_ne, put_size, hs]); (try with_reducible rfl); (try omega))
  case q94 =>
  refine wpAnyH_done (by kernel_rfl) ?_ _
  simp only [Act.put]
  refine hR _ _ ?_ (set_get (by simp [hs]))
  repeat (with_reducible refine Keep.set ?_ _ _ (by decide))
  with_reducible exact Keep.refl _ _ _ _

set_option maxRecDepth 100000 in
set_option maxHeartbeats 1000000 in
theorem reg24_0in (a : Act) (w : World) (Q : Exit → Act → World → Prop) (hQ : Blind Q) (ad : Addr) (n cap i : Nat) (x : Int) (hs : a.tmps.size = 236) (h3 : a.tmps.getD 3 undef = .int .i64 0) (h4 : a.tmps.getD 4 undef = .slice (some ad) n cap) (h6 : a.tmps.getD 6 undef = .int .i64 i)
    (hi : i < n) (hc : w.cell? (ad.add i) = some (.int .i64 x)) (hcx : ∀ o, (w.alloc o).cell? (ad.add i) = some (.int .i64 x)) (HO : Hid (out x 12 = false)) (hx : ¬ x < 0)
    (hR : ∀ t o, Keep 165 184 7 a.tmps t → t.getD 7 undef = .bool false → Q .normal ⟨t, a.defers⟩ (w.alloc o).drew) :
    (Code.region 24 ops24 true).wp Tryd.prog Q a w := by
  have g3 := getD_at h3
  have g4 := getD_at h4
  have g6 := getD_at h6
  conv => arg 2; arg 2; whnf
  refine wp_region_held_drew (S := (fun w' => w'.cell? (ad.add i) = some (.int .i64 x))) (by kernel_rfl) ?q95 (fun hHeld => ?q96)
  case q95 => (first | exact hc | assumption)
  case q96 =>
  refine step_take 0 165 (v := .slice (some ad) n cap) hQ (by kernel_rfl) (by kernel_rfl) (by kernel_rfl) (by kernel_rfl) (by assumption) ?q97 ?q98
  case q97 => (intro o ho; obtain rfl := Option.some.inj ho; refine Or.inl ⟨by rfl, ?_⟩; intro w hSw; (try dsimp only at hSw); go_simp; (try simp [put_get, put_ne, put_size, hs]); (try with_reducible rfl); (try omega))
  case q98 =>
  refine step_take 1 166 (v := .int .i64 i) hQ (by kernel_rfl) (by kernel_rfl) (by kernel_rfl) (by kernel_rfl) (by assumption) ?q99 ?q100
  case q99 => (intro o ho; obtain rfl := Option.some.inj ho; refine Or.inl ⟨by rfl, ?_⟩; intro w hSw; (try dsimp only at hSw); go_simp; (try simp [put_get, put_ne, put_size, hs]); (try with_reducible rfl); (try omega))
  case q100 =>
  refine step_take 5 170 (v := .int .i64 0) hQ (by kernel_rfl) (by kernel_rfl) (by kernel_rfl) (by kernel_rfl) (by assumption) ?q101 ?q102
  case q101 => (intro o ho; obtain rfl := Option.some.inj ho; refine Or.inl ⟨by rfl, ?_⟩; intro w hSw; (try dsimp only at hSw); go_simp; (try simp [put_get, put_ne, put_size, hs]); (try with_reducible rfl); (try omega))
  case q102 =>
  refine step_take 2 167 (v := .pointer (some (ad.add i))) hQ (by kernel_rfl) (by kernel_rfl) (by kernel_rfl) (by kernel_rfl) (by assumption) ?q103 ?q104
  case q103 => (intro o ho; obtain rfl := Option.some.inj ho; refine Or.inl ⟨by rfl, ?_⟩; intro w hSw; (try dsimp only at hSw); go_simp; (try simp [put_get, put_ne, put_size, hs]); (try with_reducible rfl); (try omega))
  case q104 =>
  refine step_take 3 168 (v := .int .i64 x) hQ (by kernel_rfl) (by kernel_rfl) (by kernel_rfl) (by kernel_rfl) (by assumption) ?q105 ?q106
  case q105 => (intro o ho; obtain rfl := Option.some.inj ho; refine Or.inl ⟨by rfl, ?_⟩; intro w hSw; (try dsimp only at hSw); go_simp; (try simp [put_get, put_ne, put_size, hs]); (try with_reducible rfl); (try omega))
  case q106 =>
  refine step_do 4 (by kernel_rfl) ?q107
  case q107 =>
  intro o ho K hK
  obtain rfl := Option.some.inj ho
  go_simp
  refine hK.out _ _ ?q108 (fun hHeld => ?q109)
  case q108 => (first | assumption | exact hcx _)
  case q109 =>
  clear hK K
  refine step_take 6 171 (v := .pointer (some ⟨w.heap.size, 0, none⟩)) hQ (by kernel_rfl) (by kernel_rfl) (by kernel_rfl) (by kernel_rfl) (by assumption) ?q110 ?q111
  case q110 => (intro o ho; obtain rfl := Option.some.inj ho; refine Or.inl ⟨by rfl, ?_⟩; intro w hSw; (try dsimp only at hSw); go_simp; (try simp [put_get, put_ne, put_size, hs]); (try with_reducible rfl); (try omega))
  case q111 =>
  refine step_do 7 (by kernel_rfl) ?q112
  case q112 =>
  intro o ho K hK
  obtain rfl := Option.some.inj ho
  go_simp
  refine hK.out _ _ ?q113 (fun hHeld => ?q114)
  case q113 => (first | assumption | exact hcx _)
  case q114 =>
  clear hK K
  refine step_do 8 (by kernel_rfl) ?q115
  case q115 =>
  intro o ho K hK
  obtain rfl := Option.some.inj ho
  (go_simp; go_at_call 28; refine (outside_any _ _ _ (by omega) (by omega)).mono ?_; rintro e w' ⟨rfl, rfl⟩; rw [HO.out]; go_wp2_with fail)
  refine hK.out _ _ ?q116 (fun hHeld => ?q117)
  case q116 => (first | assumption | exact hcx _)
  case q117 =>
  clear hK K
  refine step_take 9 174 (v := .bool false) hQ (by kernel_rfl) (by kernel_rfl) (by kernel_rfl) (by kernel_rfl) (by assumption) ?q118 ?q119
  case q118 => (intro o ho; obtain rfl := Option.some.inj ho; refine Or.inl ⟨by rfl, ?_⟩; intro w hSw; (try dsimp only at hSw); go_simp; (try simp [put_get, put_ne, put_size, hs]); (try with_reducible rfl); (try omega))
  case q119 =>
  refine step_take 10 175 (v := .int .i64 0) hQ (by kernel_rfl) (by kernel_rfl) (by kernel_rfl) (by kernel_rfl) (by assumption) ?q120 ?q121
  case q120 => (intro o ho; obtain rfl := Option.some.inj ho; refine Or.inl ⟨by go_simp, ?_⟩; intro w hSw; (try dsimp only at hSw); go_simp; (try simp [put_get, put_ne, put_size, hs]); (try with_reducible rfl); (try omega))
  case q121 =>
  refine step_take 11 176 (v := .bool true) hQ (by kernel_rfl) (by kernel_rfl) (by kernel_rfl) (by kernel_rfl) (by assumption) ?q122 ?q123
  case q122 => (intro o ho; obtain rfl := Option.some.inj ho; refine Or.inl ⟨by go_simp, ?_⟩; intro w hSw; (try dsimp only at hSw); go_simp; (try simp [put_get, put_ne, put_size, hs]); (try with_reducible rfl); (try omega))
  case q123 =>
  refine step_take 12 177 (v := .bool true) hQ (by kernel_rfl) (by kernel_rfl) (by kernel_rfl) (by kernel_rfl) (by assumption) ?q124 ?q125
  case q124 => (intro o ho; obtain rfl := Option.some.inj ho; refine Or.inl ⟨by go_simp, ?_⟩; intro w hSw; (try dsimp only at hSw); go_simp; (try simp [put_get, put_ne, put_size, hs]); (try with_reducible rfl); (try omega))
  case q125 =>
  refine step_take 13 178 (v := .slice (some ad) n cap) hQ (by kernel_rfl) (by kernel_rfl) (by kernel_rfl) (by kernel_rfl) (by assumption) ?q126 ?q127
  case q126 => (intro o ho; obtain rfl := Option.some.inj ho; refine Or.inl ⟨by go_simp, ?_⟩; intro w hSw; (try dsimp only at hSw); go_simp; (try simp [put_get, put_ne, put_size, hs]); (try with_reducible rfl); (try omega))
  case q127 =>
  refine step_take 14 179 (v := .int .i64 i) hQ (by kernel_rfl) (by kernel_rfl) (by kernel_rfl) (by kernel_rfl) (by assumption) ?q128 ?q129
  case q128 => (intro o ho; obtain rfl := Option.some.inj ho; refine Or.inl ⟨by go_simp, ?_⟩; intro w hSw; (try dsimp only at hSw); go_simp; (try simp [put_get, put_ne, put_size, hs]); (try with_reducible rfl); (try omega))
  case q129 =>
  refine step_take 15 180 (v := .pointer (some (ad.add i))) hQ (by kernel_rfl) (by kernel_rfl) (by kernel_rfl) (by kernel_rfl) (by assumption) ?q130 ?q131
  case q130 => (intro o ho; obtain rfl := Option.some.inj ho; refine Or.inl ⟨by go_simp, ?_⟩; intro w hSw; (try dsimp only at hSw); go_simp; (try simp [put_get, put_ne, put_size, hs]); (try with_reducible rfl); (try omega))
  case q131 =>
  refine step_take 16 181 (v := .int .i64 x) hQ (by kernel_rfl) (by kernel_rfl) (by kernel_rfl) (by kernel_rfl) (by assumption) ?q132 ?q133
  case q132 => (intro o ho; obtain rfl := Option.some.inj ho; refine Or.inl ⟨by go_simp, ?_⟩; intro w hSw; (try dsimp only at hSw); go_simp; (try simp [put_get, put_ne, put_size, hs]); (try with_reducible rfl); (try omega))
  case q133 =>
  refine step_take 17 182 (v := .bool false) hQ (by kernel_rfl) (by kernel_rfl) (by kernel_rfl) (by kernel_rfl) (by assumption) ?q134 ?q135
  case q134 => (intro o ho; obtain rfl := Option.some.inj ho; refine Or.inl ⟨by go_simp, ?_⟩; intro w hSw; (try dsimp only at hSw); go_simp; (try simp [put_get, put_ne, put_size, hs]); (try with_reducible rfl); (try omega))
  case q135 =>
  refine step_take 18 183 (v := .bool false) hQ (by kernel_rfl) (by kernel_rfl) (by kernel_rfl) (by kernel_rfl) (by assumption) ?q136 ?q137
  case q136 => (intro o ho; obtain rfl := Option.some.inj ho; refine Or.inl ⟨by go_simp, ?_⟩; intro w hSw; (try dsimp only at hSw); go_simp; (try simp [put_get, put_ne, put_size, hs]); (try with_reducible rfl); (try omega))
  case q137 =>
  refine step_take 19 184 (v := .bool false) hQ (by kernel_rfl) (by kernel_rfl) (by kernel_rfl) (by kernel_rfl) (by assumption) ?q138 ?q139
  case q138 => (intro o ho; obtain rfl := Option.some.inj ho; refine Or.inl ⟨by rfl, ?_⟩; intro w hSw; (try dsimp only at hSw); go_simp; (try simp [put_get, put_ne, put_size, hs]); (try with_reducible rfl); (try omega))
  case q139 =>
  refine step_take 20 7 (v := .bool false) hQ (by kernel_rfl) (by kernel_rfl) (by kernel_rfl) (by kernel_rfl) (by assumption) ?q140 ?q141
  case q140 => (intro o ho; obtain rfl := Option.some.inj ho; refine Or.inl ⟨by rfl, ?_⟩; intro w hSw; (try dsimp only at hSw); go_simp; (try simp [put_get, put_ne, put_size, hs]); (try with_reducible rfl); (try omega))
  case q141 =>
  refine wpAnyH_done (by kernel_rfl) ?_ _
  simp only [Act.put]
  refine hR _ _ ?_ (set_get (by simp [hs]))
  repeat (with_reducible refine Keep.set ?_ _ _ (by decide))
  with_reducible exact Keep.refl _ _ _ _

set_option maxRecDepth 100000 in
set_option maxHeartbeats 1000000 in
theorem reg24_1out (a : Act) (w : World) (Q : Exit → Act → World → Prop) (hQ : Blind Q) (ad : Addr) (n cap i : Nat) (x : Int) (hs : a.tmps.size = 236) (h3 : a.tmps.getD 3 undef = .int .i64 1) (h4 : a.tmps.getD 4 undef = .slice (some ad) n cap) (h6 : a.tmps.getD 6 undef = .int .i64 i)
    (hi : i < n) (hc : w.cell? (ad.add i) = some (.int .i64 x)) (hcx : ∀ o, (w.alloc o).cell? (ad.add i) = some (.int .i64 x)) (HO : Hid (out x 31 = true))
    (hR : ∀ t o, Keep 165 184 7 a.tmps t → t.getD 7 undef = .bool true → Q .normal ⟨t, a.defers⟩ (w.alloc o).drew) :
    (Code.region 24 ops24 true).wp Tryd.prog Q a w := by
  have g3 := getD_at h3
  have g4 := getD_at h4
  have g6 := getD_at h6
  conv => arg 2; arg 2; whnf
  refine wp_region_held_drew (S := (fun w' => w'.cell? (ad.add i) = some (.int .i64 x))) (by kernel_rfl) ?q142 (fun hHeld => ?q143)
  case q142 => (first | exact hc | assumption)
  case q143 =>
  refine step_take 0 165 (v := .slice (some ad) n cap) hQ (by kernel_rfl) (by kernel_rfl) (by kernel_rfl) (by kernel_rfl) (by assumption) ?q144 ?q145
  case q144 => (intro o ho; obtain rfl := Option.some.inj ho; refine Or.inl ⟨by rfl, ?_⟩; intro w hSw; (try dsimp only at hSw); go_simp; (try simp [put_get, put_ne, put_size, hs]); (try with_reducible rfl); (try omega))
  case q145 =>
  refine step_take 1 166 (v := .int .i64 i) hQ (by kernel_rfl) (by kernel_rfl) (by kernel_rfl) (by kernel_rfl) (by assumption) ?q146 ?q147
  case q146 => (intro o ho; obtain rfl := Option.some.inj ho; refine Or.inl ⟨by rfl, ?_⟩; intro w hSw; (try dsimp only at hSw); go_simp; (try simp [put_get, put_ne, put_size, hs]); (try with_reducible rfl); (try omega))
  case q147 =>
  refine step_take 5 170 (v := .int .i64 1) hQ (by kernel_rfl) (by kernel_rfl) (by kernel_rfl) (by kernel_rfl) (by assumption) ?q148 ?q149
  case q148 => (intro o ho; obtain rfl := Option.some.inj ho; refine Or.inl ⟨by rfl, ?_⟩; intro w hSw; (try dsimp only at hSw); go_simp; (try simp [put_get, put_ne, put_size, hs]); (try with_reducible rfl); (try omega))
  case q149 =>
  refine step_take 2 167 (v := .pointer (some (ad.add i))) hQ (by kernel_rfl) (by kernel_rfl) (by kernel_rfl) (by kernel_rfl) (by assumption) ?q150 ?q151
  case q150 => (intro o ho; obtain rfl := Option.some.inj ho; refine Or.inl ⟨by rfl, ?_⟩; intro w hSw; (try dsimp only at hSw); go_simp; (try simp [put_get, put_ne, put_size, hs]); (try with_reducible rfl); (try omega))
  case q151 =>
  refine step_take 3 168 (v := .int .i64 x) hQ (by kernel_rfl) (by kernel_rfl) (by kernel_rfl) (by kernel_rfl) (by assumption) ?q152 ?q153
  case q152 => (intro o ho; obtain rfl := Option.some.inj ho; refine Or.inl ⟨by rfl, ?_⟩; intro w hSw; (try dsimp only at hSw); go_simp; (try simp [put_get, put_ne, put_size, hs]); (try with_reducible rfl); (try omega))
  case q153 =>
  refine step_do 4 (by kernel_rfl) ?q154
  case q154 =>
  intro o ho K hK
  obtain rfl := Option.some.inj ho
  go_simp
  refine hK.out _ _ ?q155 (fun hHeld => ?q156)
  case q155 => (first | assumption | exact hcx _)
  case q156 =>
  clear hK K
  refine step_take 6 171 (v := .pointer (some ⟨w.heap.size, 1, none⟩)) hQ (by kernel_rfl) (by kernel_rfl) (by kernel_rfl) (by kernel_rfl) (by assumption) ?q157 ?q158
  case q157 => (intro o ho; obtain rfl := Option.some.inj ho; refine Or.inl ⟨by rfl, ?_⟩; intro w hSw; (try dsimp only at hSw); go_simp; (try simp [put_get, put_ne, put_size, hs]); (try with_reducible rfl); (try omega))
  case q158 =>
  refine step_do 7 (by kernel_rfl) ?q159
  case q159 =>
  intro o ho K hK
  obtain rfl := Option.some.inj ho
  go_simp
  refine hK.out _ _ ?q160 (fun hHeld => ?q161)
  case q160 => (first | assumption | exact hcx _)
  case q161 =>
  clear hK K
  refine step_do 8 (by kernel_rfl) ?q162
  case q162 =>
  intro o ho K hK
  obtain rfl := Option.some.inj ho
  (go_simp; go_at_call 28; refine (outside_any _ _ _ (by omega) (by omega)).mono ?_; rintro e w' ⟨rfl, rfl⟩; rw [HO.out]; go_wp2_with fail)
  refine hK.out _ _ ?q163 (fun hHeld => ?q164)
  case q163 => (first | assumption | exact hcx _)
  case q164 =>
  clear hK K
  refine step_take 9 174 (v := .bool true) hQ (by kernel_rfl) (by kernel_rfl) (by kernel_rfl) (by kernel_rfl) (by assumption) ?q165 ?q166
  case q165 => (intro o ho; obtain rfl := Option.some.inj ho; refine Or.inl ⟨by rfl, ?_⟩; intro w hSw; (try dsimp only at hSw); go_simp; (try simp [put_get, put_ne, put_size, hs]); (try with_reducible rfl); (try omega))
  case q166 =>
  refine step_skip 10 175 hQ (by kernel_rfl) (by kernel_rfl) (by kernel_rfl) (by kernel_rfl) (by assumption) ?q167 ?q168
  case q167 => (intro o ho; obtain rfl := Option.some.inj ho; go_simp; (try simp [put_get, put_ne, put_size, hs]); (try exact (show ¬ ((none : Option Bool) = some true) by simp)))
  case q168 =>
  refine step_skip 11 176 hQ (by kernel_rfl) (by kernel_rfl) (by kernel_rfl) (by kernel_rfl) (by assumption) ?q169 ?q170
  case q169 => (intro o ho; obtain rfl := Option.some.inj ho; go_simp; (try simp [put_get, put_ne, put_size, hs]); (try exact (show ¬ ((none : Option Bool) = some true) by simp)))
  case q170 =>
  refine step_skip 12 177 hQ (by kernel_rfl) (by kernel_rfl) (by kernel_rfl) (by kernel_rfl) (by assumption) ?q171 ?q172
  case q171 => (intro o ho; obtain rfl := Option.some.inj ho; go_simp; (try simp [put_get, put_ne, put_size, hs]); (try exact (show ¬ ((none : Option Bool) = some true) by simp)))
  case q172 =>
  refine step_skip 13 178 hQ (by kernel_rfl) (by kernel_rfl) (by kernel_rfl) (by kernel_rfl) (by assumption) ?q173 ?q174
  case q173 => (intro o ho; obtain rfl := Option.some.inj ho; go_simp; (try simp [put_get, put_ne, put_size, hs]); (try exact (show ¬ ((none : Option Bool) = some true) by simp)))
  case q174 =>
  refine step_skip 14 179 hQ (by kernel_rfl) (by kernel_rfl) (by kernel_rfl) (by kernel_rfl) (by assumption) ?q175 ?q176
  case q175 => (intro o ho; obtain rfl := Option.some.inj ho; go_simp; (try simp [put_get, put_ne, put_size, hs]); (try exact (show ¬ ((none : Option Bool) = some true) by simp)))
  case q176 =>
  refine step_skip 15 180 hQ (by kernel_rfl) (by kernel_rfl) (by kernel_rfl) (by kernel_rfl) (by assumption) ?q177 ?q178
  case q177 => (intro o ho; obtain rfl := Option.some.inj ho; go_simp; (try simp [put_get, put_ne, put_size, hs]); (try exact (show ¬ ((none : Option Bool) = some true) by simp)))
  case q178 =>
  refine step_skip 16 181 hQ (by kernel_rfl) (by kernel_rfl) (by kernel_rfl) (by kernel_rfl) (by assumption) ?q179 ?q180
  case q179 => (intro o ho; obtain rfl := Option.some.inj ho; go_simp; (try simp [put_get, put_ne, put_size, hs]); (try exact (show ¬ ((none : Option Bool) = some true) by simp)))
  case q180 =>
  refine step_skip 17 182 hQ (by kernel_rfl) (by kernel_rfl) (by kernel_rfl) (by kernel_rfl) (by assumption) ?q181 ?q182
  case q181 => (intro o ho; obtain rfl := Option.some.inj ho; go_simp; (try simp [put_get, put_ne, put_size, hs]); (try exact (show ¬ ((none : Option Bool) = some true) by simp)))
  case q182 =>
  refine step_skip 18 183 hQ (by kernel_rfl) (by kernel_rfl) (by kernel_rfl) (by kernel_rfl) (by assumption) ?q183 ?q184
  case q183 => (intro o ho; obtain rfl := Option.some.inj ho; go_simp; (try simp [put_get, put_ne, put_size, hs]); (try exact (show ¬ ((none : Option Bool) = some true) by simp)))
  case q184 =>
  refine step_take 19 184 (v := .bool true) hQ (by kernel_rfl) (by kernel_rfl) (by kernel_rfl) (by kernel_rfl) (by assumption) ?q185 ?q186
  case q185 => (intro o ho; obtain rfl := Option.some.inj ho; refine Or.inl ⟨by rfl, ?_⟩; intro w hSw; (try dsimp only at hSw); go_simp; (try simp [put_get, put_ne, put_size, hs]); (try with_reducible rfl); (try omega))
  case q186 =>
  refine step_take 20 7 (v := .bool true) hQ (by kernel_rfl) (by kernel_rfl) (by kernel_rfl) (by kernel_rfl) (by assumption) ?q187 ?q188
  case q187 => (intro o ho; obtain rfl := Option.some.inj ho; refine Or.inl ⟨by rfl, ?_⟩; intro w hSw; (try dsimp only at hSw); go_simp; (try simp [put_get, put_ne, put_size, hs]); (try with_reducible rfl); (try omega))
  case q188 =>
  refine wpAnyH_done (by kernel_rfl) ?_ _
  simp only [Act.put]
  refine hR _ _ ?_ (set_get (by simp [hs]))
  repeat (with_reducible refine Keep.set ?_ _ _ (by decide))
  with_reducible exact Keep.refl _ _ _ _

set_option maxRecDepth 100000 in
set_option maxHeartbeats 1000000 in
theorem reg24_1in (a : Act) (w : World) (Q : Exit → Act → World → Prop) (hQ : Blind Q) (ad : Addr) (n cap i : Nat) (x : Int) (hs : a.tmps.size = 236) (h3 : a.tmps.getD 3 undef = .int .i64 1) (h4 : a.tmps.getD 4 undef = .slice (some ad) n cap) (h6 : a.tmps.getD 6 undef = .int .i64 i)
    (hi : i < n) (hc : w.cell? (ad.add i) = some (.int .i64 x)) (hcx : ∀ o, (w.alloc o).cell? (ad.add i) = some (.int .i64 x)) (HO : Hid (out x 31 = false))
    (hR : ∀ t o, Keep 165 184 7 a.tmps t → t.getD 7 undef = .bool false → Q .normal ⟨t, a.defers⟩ (w.alloc o).drew) :
    (Code.region 24 ops24 true).wp Tryd.prog Q a w := by
  have g3 := getD_at h3
  have g4 := getD_at h4
  have g6 := getD_at h6
  conv => arg 2; arg 2; whnf
  refine wp_region_held_drew (S := (fun w' => w'.cell? (ad.add i) = some (.int .i64 x))) (by kernel_rfl) ?q189 (fun hHeld => ?q190)
  case q189 => (first | exact hc | assumption)
  case q190 =>
  refine step_take 0 165 (v := .slice (some ad) n cap) hQ (by kernel_rfl) (by kernel_rfl) (by kernel_rfl) (by kernel_rfl) (by assumption) ?q191 ?q192
  case q191 => (intro o ho; obtain rfl := Option.some.inj ho; refine Or.inl ⟨by rfl, ?_⟩; intro w hSw; (try dsimp only at hSw); go_simp; (try simp [put_get, put_ne, put_size, hs]); (try with_reducible rfl); (try omega))
  case q192 =>
  refine step_take 1 166 (v := .int .i64 i) hQ (by kernel_rfl) (by kernel_rfl) (by kernel_rfl) (by kernel_rfl) (by assumption) ?q193 ?q194
  case q193 => (intro o ho; obtain rfl := Option.some.inj ho; refine Or.inl ⟨by rfl, ?_⟩; intro w hSw; (try dsimp only at hSw); go_simp; (try simp [put_get, put_ne, put_size, hs]); (try with_reducible rfl); (try omega))
  case q194 =>
  refine step_take 5 170 (v := .int .i64 1) hQ (by kernel_rfl) (by kernel_rfl) (by kernel_rfl) (by kernel_rfl) (by assumption) ?q195 ?q196
  case q195 => (intro o ho; obtain rfl := Option.some.inj ho; refine Or.inl ⟨by rfl, ?_⟩; intro w hSw; (try dsimp only at hSw); go_simp; (try simp [put_get, put_ne, put_size, hs]); (try with_reducible rfl); (try omega))
  case q196 =>
  refine step_take 2 167 (v := .pointer (some (ad.add i))) hQ (by kernel_rfl) (by kernel_rfl) (by kernel_rfl) (by kernel_rfl) (by assumption) ?q197 ?q198
  case q197 => (intro o ho; obtain rfl := Option.some.inj ho; refine Or.inl ⟨by rfl, ?_⟩; intro w hSw; (try dsimp only at hSw); go_simp; (try simp [put_get, put_ne, put_size, hs]); (try with_reducible rfl); (try omega))
  case q198 =>
  refine step_take 3 168 (v := .int .i64 x) hQ (by kernel_rfl) (by kernel_rfl) (by kernel_rfl) (by kernel_rfl) (by assumption) ?q199 ?q200
  case q199 => (intro o ho; obtain rfl := Option.some.inj ho; refine Or.inl ⟨by rfl, ?_⟩; intro w hSw; (try dsimp only at hSw); go_simp; (try simp [put_get, put_ne, put_size, hs]); (try with_reducible rfl); (try omega))
  case q200 =>
  refine step_do 4 (by kernel_rfl) ?q201
  case q201 =>
  intro o ho K hK
  obtain rfl := Option.some.inj ho
  go_simp
  refine hK.out _ _ ?q202 (fun hHeld => ?q203)
  case q202 => (first | assumption | exact hcx _)
  case q203 =>
  clear hK K
  refine step_take 6 171 (v := .pointer (some ⟨w.heap.size, 1, none⟩)) hQ (by kernel_rfl) (by kernel_rfl) (by kernel_rfl) (by kernel_rfl) (by assumption) ?q204 ?q205
  case q204 => (intro o ho; obtain rfl := Option.some.inj ho; refine Or.inl ⟨by rfl, ?_⟩; intro w hSw; (try dsimp only at hSw); go_simp; (try simp [put_get, put_ne, put_size, hs]); (try with_reducible rfl); (try omega))
  case q205 =>
  refine step_do 7 (by kernel_rfl) ?q206
  case q206 =>
  intro o ho K hK
  obtain rfl := Option.some.inj ho
  go_simp
  refine hK.out _ _ ?q207 (fun hHeld => ?q208)
  case q207 => (first | assumption | exact hcx _)
  case q208 =>
  clear hK K
  refine step_do 8 (by kernel_rfl) ?q209
  case q209 =>
  intro o ho K hK
  obtain rfl := Option.some.inj ho
  (go_simp; go_at_call 28; refine (outside_any _ _ _ (by omega) (by omega)).mono ?_; rintro e w' ⟨rfl, rfl⟩; rw [HO.out]; go_wp2_with fail)
  refine hK.out _ _ ?q210 (fun hHeld => ?q211)
  case q210 => (first | assumption | exact hcx _)
  case q211 =>
  clear hK K
  refine step_take 9 174 (v := .bool false) hQ (by kernel_rfl) (by kernel_rfl) (by kernel_rfl) (by kernel_rfl) (by assumption) ?q212 ?q213
  case q212 => (intro o ho; obtain rfl := Option.some.inj ho; refine Or.inl ⟨by rfl, ?_⟩; intro w hSw; (try dsimp only at hSw); go_simp; (try simp [put_get, put_ne, put_size, hs]); (try with_reducible rfl); (try omega))
  case q213 =>
  refine step_take 10 175 (v := .int .i64 1) hQ (by kernel_rfl) (by kernel_rfl) (by kernel_rfl) (by kernel_rfl) (by assumption) ?q214 ?q215
  case q214 => (intro o ho; obtain rfl := Option.some.inj ho; refine Or.inl ⟨by go_simp, ?_⟩; intro w hSw; (try dsimp only at hSw); go_simp; (try simp [put_get, put_ne, put_size, hs]); (try with_reducible rfl); (try omega))
  case q215 =>
  refine step_take 11 176 (v := .bool false) hQ (by kernel_rfl) (by kernel_rfl) (by kernel_rfl) (by kernel_rfl) (by assumption) ?q216 ?q217
  case q216 => (intro o ho; obtain rfl := Option.some.inj ho; refine Or.inl ⟨by go_simp, ?_⟩; intro w hSw; (try dsimp only at hSw); go_simp; (try simp [put_get, put_ne, put_size, hs]); (try with_reducible rfl); (try omega))
  case q217 =>
  refine step_take 12 177 (v := .bool false) hQ (by kernel_rfl) (by kernel_rfl) (by kernel_rfl) (by kernel_rfl) (by assumption) ?q218 ?q219
  case q218 => (intro o ho; obtain rfl := Option.some.inj ho; refine Or.inl ⟨by go_simp, ?_⟩; intro w hSw; (try dsimp only at hSw); go_simp; (try simp [put_get, put_ne, put_size, hs]); (try with_reducible rfl); (try omega))
  case q219 =>
  refine step_skip 13 178 hQ (by kernel_rfl) (by kernel_rfl) (by kernel_rfl) (by kernel_rfl) (by assumption) ?q220 ?q221
  case q220 => (intro o ho; obtain rfl := Option.some.inj ho; go_simp; (try simp [put_get, put_ne, put_size, hs]); (try exact (show ¬ ((none : Option Bool) = some true) by simp)))
  case q221 =>
  refine step_skip 14 179 hQ (by kernel_rfl) (by kernel_rfl) (by kernel_rfl) (by kernel_rfl) (by assumption) ?q222 ?q223
  case q222 => (intro o ho; obtain rfl := Option.some.inj ho; go_simp; (try simp [put_get, put_ne, put_size, hs]); (try exact (show ¬ ((none : Option Bool) = some true) by simp)))
  case q223 =>
  refine step_skip 15 180 hQ (by kernel_rfl) (by kernel_rfl) (by kernel_rfl) (by kernel_rfl) (by assumption) ?q224 ?q225
  case q224 => (intro o ho; obtain rfl := Option.some.inj ho; go_simp; (try simp [put_get, put_ne, put_size, hs]); (try exact (show ¬ ((none : Option Bool) = some true) by simp)))
  case q225 =>
  refine step_skip 16 181 hQ (by kernel_rfl) (by kernel_rfl) (by kernel_rfl) (by kernel_rfl) (by assumption) ?q226 ?q227
  case q226 => (intro o ho; obtain rfl := Option.some.inj ho; go_simp; (try simp [put_get, put_ne, put_size, hs]); (try exact (show ¬ ((none : Option Bool) = some true) by simp)))
  case q227 =>
  refine step_skip 17 182 hQ (by kernel_rfl) (by kernel_rfl) (by kernel_rfl) (by kernel_rfl) (by assumption) ?q228 ?q229
  case q228 => (intro o ho; obtain rfl := Option.some.inj ho; go_simp; (try simp [put_get, put_ne, put_size, hs]); (try exact (show ¬ ((none : Option Bool) = some true) by simp)))
  case q229 =>
  refine step_take 18 183 (v := .bool false) hQ (by kernel_rfl) (by kernel_rfl) (by kernel_rfl) (by kernel_rfl) (by assumption) ?q230 ?q231
  case q230 => (intro o ho; obtain rfl := Option.some.inj ho; refine Or.inl ⟨by go_simp, ?_⟩; intro w hSw; (try dsimp only at hSw); go_simp; (try simp [put_get, put_ne, put_size, hs]); (try with_reducible rfl); (try omega))
  case q231 =>
  refine step_take 19 184 (v := .bool false) hQ (by kernel_rfl) (by kernel_rfl) (by kernel_rfl) (by kernel_rfl) (by assumption) ?q232 ?q233
  case q232 => (intro o ho; obtain rfl := Option.some.inj ho; refine Or.inl ⟨by rfl, ?_⟩; intro w hSw; (try dsimp only at hSw); go_simp; (try simp [put_get, put_ne, put_size, hs]); (try with_reducible rfl); (try omega))
  case q233 =>
  refine step_take 20 7 (v := .bool false) hQ (by kernel_rfl) (by kernel_rfl) (by kernel_rfl) (by kernel_rfl) (by assumption) ?q234 ?q235
  case q234 => (intro o ho; obtain rfl := Option.some.inj ho; refine Or.inl ⟨by rfl, ?_⟩; intro w hSw; (try dsimp only at hSw); go_simp; (try simp [put_get, put_ne, put_size, hs]); (try with_reducible rfl); (try omega))
  case q235 =>
  refine wpAnyH_done (by kernel_rfl) ?_ _
  simp only [Act.put]
  refine hR _ _ ?_ (set_get (by simp [hs]))
  repeat (with_reducible refine Keep.set ?_ _ _ (by decide))
  with_reducible exact Keep.refl _ _ _ _

set_option maxRecDepth 100000 in
set_option maxHeartbeats 1000000 in
theorem reg24_3out (a : Act) (w : World) (Q : Exit → Act → World → Prop) (hQ : Blind Q) (ad : Addr) (n cap i : Nat) (x : Int) (hs : a.tmps.size = 236) (h3 : a.tmps.getD 3 undef = .int .i64 3) (h4 : a.tmps.getD 4 undef = .slice (some ad) n cap) (h6 : a.tmps.getD 6 undef = .int .i64 i)
    (hi : i < n) (hc : w.cell? (ad.add i) = some (.int .i64 x)) (hcx : ∀ o, (w.alloc o).cell? (ad.add i) = some (.int .i64 x)) (HO : Hid (out x 366 = true))
    (hR : ∀ t o, Keep 165 184 7 a.tmps t → t.getD 7 undef = .bool true → Q .normal ⟨t, a.defers⟩ (w.alloc o).drew) :
    (Code.region 24 ops24 true).wp Tryd.prog Q a w := by
  have g3 := getD_at h3
  have g4 := getD_at h4
  have g6 := getD_at h6
  conv => arg 2; arg 2; whnf
  refine wp_region_held_drew (S := (fun w' => w'.cell? (ad.add i) = some (.int .i64 x))) (by kernel_rfl) ?q236 (fun hHeld => ?q237)
  case q236 => (first | exact hc | assumption)
  case q237 =>
  refine step_take 0 165 (v := .slice (some ad) n cap) hQ (by kernel_rfl) (by kernel_rfl) (by kernel_rfl) (by kernel_rfl) (by assumption) ?q238 ?q239
  case q238 => (intro o ho; obtain rfl := Option.some.inj ho; refine Or.inl ⟨by rfl, ?_⟩; intro w hSw; (try dsimp only at hSw); go_simp; (try simp [put_get, put_ne, put_size, hs]); (try with_reducible rfl); (try omega))
  case q239 =>
  refine step_take 1 166 (v := .int .i64 i) hQ (by kernel_rfl) (by kernel_rfl) (by kernel_rfl) (by kernel_rfl) (by assumption) ?q240 ?q241
  case q240 => (intro o ho; obtain rfl := Option.some.inj ho; refine Or.inl ⟨by rfl, ?_⟩; intro w hSw; (try dsimp only at hSw); go_simp; (try simp [put_get, put_ne, put_size, hs]); (try with_reducible rfl); (try omega))
  case q241 =>
  refine step_take 5 170 (v := .int .i64 3) hQ (by kernel_rfl) (by kernel_rfl) (by kernel_rfl) (by kernel_rfl) (by assumption) ?q242 ?q243
  case q242 => (intro o ho; obtain rfl := Option.some.inj ho; refine Or.inl ⟨by rfl, ?_⟩; intro w hSw; (try dsimp only at hSw); go_simp; (try simp [put_get, put_ne, put_size, hs]); (try with_reducible rfl); (try omega))
  case q243 =>
  refine step_take 2 167 (v := .pointer (some (ad.add i))) hQ (by kernel_rfl) (by kernel_rfl) (by kernel_rfl) (by kernel_rfl) (by assumption) ?q244 ?q245
  case q244 => (intro o ho; obtain rfl := Option.some.inj ho; refine Or.inl ⟨by rfl, ?_⟩; intro w hSw; (try dsimp only at hSw); go_simp; (try simp [put_get, put_ne, put_size, hs]); (try with_reducible rfl); (try omega))
  case q245 =>
  refine step_take 3 168 (v := .int .i64 x) hQ (by kernel_rfl) (by kernel_rfl) (by kernel_rfl) (by kernel_rfl) (by assumption) ?q246 ?q247
  case q246 => (intro o ho; obtain rfl := Option.some.inj ho; refine Or.inl ⟨by rfl, ?_⟩; intro w hSw; (try dsimp only at hSw); go_simp; (try simp [put_get, put_ne, put_size, hs]); (try with_reducible rfl); (try omega))
  case q247 =>
  refine step_do 4 (by kernel_rfl) ?q248
  case q248 =>
  intro o ho K hK
  obtain rfl := Option.some.inj ho
  go_simp
  refine hK.out _ _ ?q249 (fun hHeld => ?q250)
  case q249 => (first | assumption | exact hcx _)
  case q250 =>
  clear hK K
  refine step_take 6 171 (v := .pointer (some ⟨w.heap.size, 3, none⟩)) hQ (by kernel_rfl) (by kernel_rfl) (by kernel_rfl) (by kernel_rfl) (by assumption) ?q251 ?q252
  case q251 => (intro o ho; obtain rfl := Option.some.inj ho; refine Or.inl ⟨by rfl, ?_⟩; intro w hSw; (try dsimp only at hSw); go_simp; (try simp [put_get, put_ne, put_size, hs]); (try with_reducible rfl); (try omega))
  case q252 =>
  refine step_do 7 (by kernel_rfl) ?q253
  case q253 =>
  intro o ho K hK
  obtain rfl := Option.some.inj ho
  go_simp
  refine hK.out _ _ ?q254 (fun hHeld => ?q255)
  case q254 => (first | assumption | exact hcx _)
  case q255 =>
  clear hK K
  refine step_do 8 (by kernel_rfl) ?q256
  case q256 =>
  intro o ho K hK
  obtain rfl := Option.some.inj ho
  (go_simp; go_at_call 28; refine (outside_any _ _ _ (by omega) (by omega)).mono ?_; rintro e w' ⟨rfl, rfl⟩; rw [HO.out]; go_wp2_with fail)
  refine hK.out _ _ ?q257 (fun hHeld => ?q258)
  case q257 => (first | assumption | exact hcx _)
  case q258 =>
  clear hK K
  refine step_take 9 174 (v := .bool true) hQ (by kernel_rfl) (by kernel_rfl) (by kernel_rfl) (by kernel_rfl) (by assumption) ?q259 ?q260
  case q259 => (intro o ho; obtain rfl := Option.some.inj ho; refine Or.inl ⟨by rfl, ?_⟩; intro w hSw; (try dsimp only at hSw); go_simp; (try simp [put_get, put_ne, put_size, hs]); (try with_reducible rfl); (try omega))
  case q260 =>
  refine step_skip 10 175 hQ (by kernel_rfl) (by kernel_rfl) (by kernel_rfl) (by kernel_rfl) (by assumption) ?q261 ?q262
  case q261 => (intro o ho; obtain rfl := Option.some.inj ho; go_simp; (try simp [put_get, put_ne, put_size, hs]); (try exact (show ¬ ((none : Option Bool) = some true) by simp)))
  case q262 =>
  refine step_skip 11 176 hQ (by kernel_rfl) (by kernel_rfl) (by kernel_rfl) (by kernel_rfl) (by assumption) ?q263 ?q264
  case q263 => (intro o ho; obtain rfl := Option.some.inj ho; go_simp; (try simp [put_get, put_ne, put_size, hs]); (try exact (show ¬ ((none : Option Bool) = some true) by simp)))
  case q264 =>
  refine step_skip 12 177 hQ (by kernel_rfl) (by kernel_rfl) (by kernel_rfl) (by kernel_rfl) (by assumption) ?q265 ?q266
  case q265 => (intro o ho; obtain rfl := Option.some.inj ho; go_simp; (try simp [put_get, put_ne, put_size, hs]); (try exact (show ¬ ((none : Option Bool) = some true) by simp)))
  case q266 =>
  refine step_skip 13 178 hQ (by kernel_rfl) (by kernel_rfl) (by kernel_rfl) (by kernel_rfl) (by assumption) ?q267 ?q268
  case q267 => (intro o ho; obtain rfl := Option.some.inj ho; go_simp; (try simp [put_get, put_ne, put_size, hs]); (try exact (show ¬ ((none : Option Bool) = some true) by simp)))
  case q268 =>
  refine step_skip 14 179 hQ (by kernel_rfl) (by kernel_rfl) (by kernel_rfl) (by kernel_rfl) (by assumption) ?q269 ?q270
  case q269 => (intro o ho; obtain rfl := Option.some.inj ho; go_simp; (try simp [put_get, put_ne, put_size, hs]); (try exact (show ¬ ((none : Option Bool) = some true) by simp)))
  case q270 =>
  refine step_skip 15 180 hQ (by kernel_rfl) (by kernel_rfl) (by kernel_rfl) (by kernel_rfl) (by assumption) ?q271 ?q272
  case q271 => (intro o ho; obtain rfl := Option.some.inj ho; go_simp; (try simp [put_get, put_ne, put_size, hs]); (try exact (show ¬ ((none : Option Bool) = some true) by simp)))
  case q272 =>
  refine step_skip 16 181 hQ (by kernel_rfl) (by kernel_rfl) (by kernel_rfl) (by kernel_rfl) (by assumption) ?q273 ?q274
  case q273 => (intro o ho; obtain rfl := Option.some.inj ho; go_simp; (try simp [put_get, put_ne, put_size, hs]); (try exact (show ¬ ((none : Option Bool) = some true) by simp)))
  case q274 =>
  refine step_skip 17 182 hQ (by kernel_rfl) (by kernel_rfl) (by kernel_rfl) (by kernel_rfl) (by assumption) ?q275 ?q276
  case q275 => (intro o ho; obtain rfl := Option.some.inj ho; go_simp; (try simp [put_get, put_ne, put_size, hs]); (try exact (show ¬ ((none : Option Bool) = some true) by simp)))
  case q276 =>
  refine step_skip 18 183 hQ (by kernel_rfl) (by kernel_rfl) (by kernel_rfl) (by kernel_rfl) (by assumption) ?q277 ?q278
  case q277 => (intro o ho; obtain rfl := Option.some.inj ho; go_simp; (try simp [put_get, put_ne, put_size, hs]); (try exact (show ¬ ((none : Option Bool) = some true) by simp)))
  case q278 =>
  refine step_take 19 184 (v := .bool true) hQ (by kernel_rfl) (by kernel_rfl) (by kernel_rfl) (by kernel_rfl) (by assumption) ?q279 ?q280
  case q279 => (intro o ho; obtain rfl := Option.some.inj ho; refine Or.inl ⟨by rfl, ?_⟩; intro w hSw; (try dsimp only at hSw); go_simp; (try simp [put_get, put_ne, put_size, hs]); (try with_reducible rfl); (try omega))
  case q280 =>
  refine step_take 20 7 (v := .bool true) hQ (by kernel_rfl) (by kernel_rfl) (by kernel_rfl) (by kernel_rfl) (by assumption) ?q281 ?q282
  case q281 => (intro o ho; obtain rfl := Option.some.inj ho; refine Or.inl ⟨by rfl, ?_⟩; intro w hSw; (try dsimp only at hSw); go_simp; (try simp [put_get, put_ne, put_size, hs]); (try with_reducible rfl); (try omega))
  case q282 =>
  refine wpAnyH_done (by kernel_rfl) ?_ _
  simp only [Act.put]
  refine hR _ _ ?_ (set_get (by simp [hs]))
  repeat (with_reducible refine Keep.set ?_ _ _ (by decide))
  with_reducible exact Keep.refl _ _ _ _

set_option maxRecDepth 100000 in
set_option maxHeartbeats 1000000 in
theorem reg24_3in (a : Act) (w : World) (Q : Exit → Act → World → Prop) (hQ : Blind Q) (ad : Addr) (n cap i : Nat) (x : Int) (hs : a.tmps.size = 236) (h3 : a.tmps.getD 3 undef = .int .i64 3) (h4 : a.tmps.getD 4 undef = .slice (some ad) n cap) (h6 : a.tmps.getD 6 undef = .int .i64 i)
    (hi : i < n) (hc : w.cell? (ad.add i) = some (.int .i64 x)) (hcx : ∀ o, (w.alloc o).cell? (ad.add i) = some (.int .i64 x)) (HO : Hid (out x 366 = false))
    (hR : ∀ t o, Keep 165 184 7 a.tmps t → t.getD 7 undef = .bool false → Q .normal ⟨t, a.defers⟩ (w.alloc o).drew) :
    (Code.region 24 ops24 true).wp Tryd.prog Q a w := by
  have g3 := getD_at h3
  have g4 := getD_at h4
  have g6 := getD_at h6
  conv => arg 2; arg 2; whnf
  refine wp_region_held_drew (S := (fun w' => w'.cell? (ad.add i) = some (.int .i64 x))) (by kernel_rfl) ?q283 (fun hHeld => ?q284)
  case q283 => (first | exact hc | assumption)
  case q284 =>
  refine step_take 0 165 (v := .slice (some ad) n cap) hQ (by kernel_rfl) (by kernel_rfl) (by kernel_rfl) (by kernel_rfl) (by assumption) ?q285 ?q286
  case q285 => (intro o ho; obtain rfl := Option.some.inj ho; refine Or.inl ⟨by rfl, ?_⟩; intro w hSw; (try dsimp only at hSw); go_simp; (try simp [put_get, put_ne, put_size, hs]); (try with_reducible rfl); (try omega))
  case q286 =>
  refine step_take 1 166 (v := .int .i64 i) hQ (by kernel_rfl) (by kernel_rfl) (by kernel_rfl) (by kernel_rfl) (by assumption) ?q287 ?q288
  case q287 => (intro o ho; obtain rfl := Option.some.inj ho; refine Or.inl ⟨by rfl, ?_⟩; intro w hSw; (try dsimp only at hSw); go_simp; (try simp [put_get, put_ne, put_size, hs]); (try with_reducible rfl); (try omega))
  case q288 =>
  refine step_take 5 170 (v := .int .i64 3) hQ (by kernel_rfl) (by kernel_rfl) (by kernel_rfl) (by kernel_rfl) (by assumption) ?q289 ?q290
  case q289 => (intro o ho; obtain rfl := Option.some.inj ho; refine Or.inl ⟨by rfl, ?_⟩; intro w hSw; (try dsimp only at hSw); go_simp; (try simp [put_get, put_ne, put_size, hs]); (try with_reducible rfl); (try omega))
  case q290 =>
  refine step_take 2 167 (v := .pointer (some (ad.add i))) hQ (by kernel_rfl) (by kernel_rfl) (by kernel_rfl) (by kernel_rfl) (by assumption) ?q291 ?q292
  case q291 => (intro o ho; obtain rfl := Option.some.inj ho; refine Or.inl ⟨by rfl, ?_⟩; intro w hSw; (try dsimp only at hSw); go_simp; (try simp [put_get, put_ne, put_size, hs]); (try with_reducible rfl); (try omega))
  case q292 =>
  refine step_take 3 168 (v := .int .i64 x) hQ (by kernel_rfl) (by kernel_rfl) (by kernel_rfl) (by kernel_rfl) (by assumption) ?q293 ?q294
  case q293 => (intro o ho; obtain rfl := Option.some.inj ho; refine Or.inl ⟨by rfl, ?_⟩; intro w hSw; (try dsimp only at hSw); go_simp; (try simp [put_get, put_ne, put_size, hs]); (try with_reducible rfl); (try omega))
  case q294 =>
  refine step_do 4 (by kernel_rfl) ?q295
  case q295 =>
  intro o ho K hK
  obtain rfl := Option.some.inj ho
  go_simp
  refine hK.out _ _ ?q296 (fun hHeld => ?q297)
  case q296 => (first | assumption | exact hcx _)
  case q297 =>
  clear hK K
  refine step_take 6 171 (v := .pointer (some ⟨w.heap.size, 3, none⟩)) hQ (by kernel_rfl) (by kernel_rfl) (by kernel_rfl) (by kernel_rfl) (by assumption) ?q298 ?q299
  case q298 => (intro o ho; obtain rfl := Option.some.inj ho; refine Or.inl ⟨by rfl, ?_⟩; intro w hSw; (try dsimp only at hSw); go_simp; (try simp [put_get, put_ne, put_size, hs]); (try with_reducible rfl); (try omega))
  case q299 =>
  refine step_do 7 (by kernel_rfl) ?q300
  case q300 =>
  intro o ho K hK
  obtain rfl := Option.some.inj ho
  go_simp
  refine hK.out _ _ ?q301 (fun hHeld => ?q302)
  case q301 => (first | assumption | exact hcx _)
  case q302 =>
  clear hK K
  refine step_do 8 (by kernel_rfl) ?q303
  case q303 =>
  intro o ho K hK
  obtain rfl := Option.some.inj ho
  (go_simp; go_at_call 28; refine (outside_any _ _ _ (by omega) (by omega)).mono ?_; rintro e w' ⟨rfl, rfl⟩; rw [HO.out]; go_wp2_with fail)
  refine hK.out _ _ ?q304 (fun hHeld => ?q305)
  case q304 => (first | assumption | exact hcx _)
  case q305 =>
  clear hK K
  refine step_take 9 174 (v := .bool false) hQ (by kernel_rfl) (by kernel_rfl) (by kernel_rfl) (by kernel_rfl) (by assumption) ?q306 ?q307
  case q306 => (intro o ho; obtain rfl := Option.some.inj ho; refine Or.inl ⟨by rfl, ?_⟩; intro w hSw; (try dsimp only at hSw); go_simp; (try simp [put_get, put_ne, put_size, hs]); (try with_reducible rfl); (try omega))
  case q307 =>
  refine step_take 10 175 (v := .int .i64 3) hQ (by kernel_rfl) (by kernel_rfl) (by kernel_rfl) (by kernel_rfl) (by assumption) ?q308 ?q309
  case q308 => (intro o ho; obtain rfl := Option.some.inj ho; refine Or.inl ⟨by go_simp, ?_⟩; intro w hSw; (try dsimp only at hSw); go_simp; (try simp [put_get, put_ne, put_size, hs]); (try with_reducible rfl); (try omega))
  case q309 =>
  refine step_take 11 176 (v := .bool false) hQ (by kernel_rfl) (by kernel_rfl) (by kernel_rfl) (by kernel_rfl) (by assumption) ?q310 ?q311
  case q310 => (intro o ho; obtain rfl := Option.some.inj ho; refine Or.inl ⟨by go_simp, ?_⟩; intro w hSw; (try dsimp only at hSw); go_simp; (try simp [put_get, put_ne, put_size, hs]); (try with_reducible rfl); (try omega))
  case q311 =>
  refine step_take 12 177 (v := .bool false) hQ (by kernel_rfl) (by kernel_rfl) (by kernel_rfl) (by kernel_rfl) (by assumption) ?q312 ?q313
  case q312 => (intro o ho; obtain rfl := Option.some.inj ho; refine Or.inl ⟨by go_simp, ?_⟩; intro w hSw; (try dsimp only at hSw); go_simp; (try simp [put_get, put_ne, put_size, hs]); (try with_reducible rfl); (try omega))
  case q313 =>
  refine step_skip 13 178 hQ (by kernel_rfl) (by kernel_rfl) (by kernel_rfl) (by kernel_rfl) (by assumption) ?q314 ?q315
  case q314 => (intro o ho; obtain rfl := Option.some.inj ho; go_simp; (try simp [put_get, put_ne, put_size, hs]); (try exact (show ¬ ((none : Option Bool) = some true) by simp)))
  case q315 =>
  refine step_skip 14 179 hQ (by kernel_rfl) (by kernel_rfl) (by kernel_rfl) (by kernel_rfl) (by assumption) ?q316 ?q317
  case q316 => (intro o ho; obtain rfl := Option.some.inj ho; go_simp; (try simp [put_get, put_ne, put_size, hs]); (try exact (show ¬ ((none : Option Bool) = some true) by simp)))
  case q317 =>
  refine step_skip 15 180 hQ (by kernel_rfl) (by kernel_rfl) (by kernel_rfl) (by kernel_rfl) (by assumption) ?q318 ?q319
  case q318 => (intro o ho; obtain rfl := Option.some.inj ho; go_simp; (try simp [put_get, put_ne, put_size, hs]); (try exact (show ¬ ((none : Option Bool) = some true) by simp)))
  case q319 =>
  refine step_skip 16 181 hQ (by kernel_rfl) (by kernel_rfl) (by kernel_rfl) (by kernel_rfl) (by assumption) ?q320 ?q321
  case q320 => (intro o ho; obtain rfl := Option.some.inj ho; go_simp; (try simp [put_get, put_ne, put_size, hs]); (try exact (show ¬ ((none : Option Bool) = some true) by simp)))
  case q321 =>
  refine step_skip 17 182 hQ (by kernel_rfl) (by kernel_rfl) (by kernel_rfl) (by kernel_rfl) (by assumption) ?q322 ?q323
  case q322 => (intro o ho; obtain rfl := Option.some.inj ho; go_simp; (try simp [put_get, put_ne, put_size, hs]); (try exact (show ¬ ((none : Option Bool) = some true) by simp)))
  case q323 =>
  refine step_take 18 183 (v := .bool false) hQ (by kernel_rfl) (by kernel_rfl) (by kernel_rfl) (by kernel_rfl) (by assumption) ?q324 ?q325
  case q324 => (intro o ho; obtain rfl := Option.some.inj ho; refine Or.inl ⟨by go_simp, ?_⟩; intro w hSw; (try dsimp only at hSw); go_simp; (try simp [put_get, put_ne, put_size, hs]); (try with_reducible rfl); (try omega))
  case q325 =>
  refine step_take 19 184 (v := .bool false) hQ (by kernel_rfl) (by kernel_rfl) (by kernel_rfl) (by kernel_rfl) (by assumption) ?q326 ?q327
  case q326 => (intro o ho; obtain rfl := Option.some.inj ho; refine Or.inl ⟨by rfl, ?_⟩; intro w hSw; (try dsimp only at hSw); go_simp; (try simp [put_get, put_ne, put_size, hs]); (try with_reducible rfl); (try omega))
  case q327 =>
  refine step_take 20 7 (v := .bool false) hQ (by kernel_rfl) (by kernel_rfl) (by kernel_rfl) (by kernel_rfl) (by assumption) ?q328 ?q329
  case q328 => (intro o ho; obtain rfl := Option.some.inj ho; refine Or.inl ⟨by rfl, ?_⟩; intro w hSw; (try dsimp only at hSw); go_simp; (try simp [put_get, put_ne, put_size, hs]); (try with_reducible rfl); (try omega))
  case q329 =>
  refine wpAnyH_done (by kernel_rfl) ?_ _
  simp only [Act.put]
  refine hR _ _ ?_ (set_get (by simp [hs]))
  repeat (with_reducible refine Keep.set ?_ _ _ (by decide))
  with_reducible exact Keep.refl _ _ _ _
end Go.Proofs.YtoldjleojnlhiaaDoor
