/-
  The law's Check: whether a weekday comes behind the one ahead of it (region 23), over a frame that is a letter.
-/
import Derived.Test.YtoldjleojnlhiaaDoorR11
import Derived.IntWalk
namespace Go.Proofs.YtoldjleojnlhiaaDoor
open Go.RowKit
noncomputable def ops23 : Array Oper := (Tryd.f14.body.bind (regOf 23)).getD #[]

set_option maxRecDepth 100000 in
set_option maxHeartbeats 1000000 in
theorem reg23_first (a : Act) (w : World) (Q : Exit → Act → World → Prop) (hQ : Blind Q) (ad : Addr) (b c n cap i : Nat) (x y : Int) (hs : a.tmps.size = 236) (h1 : a.tmps.getD 1 undef = .pointer (some ⟨b, 0, none⟩)) (h6 : a.tmps.getD 6 undef = .int .i64 i) (h9 : a.tmps.getD 9 undef = .pointer (some ⟨c, 0, none⟩))
    (hb6 : w.cell? ⟨b, 6, none⟩ = some (.slice (some ad) n cap)) (hx : w.cell? ⟨c, 0, none⟩ = some (.int .i64 x)) (hy : w.cell? ⟨c, 1, none⟩ = some (.int .i64 y)) (h0 : i = 0)
    (hR : ∀ t, Keep 127 164 8 a.tmps t → t.getD 8 undef = .bool false → Q .normal ⟨t, a.defers⟩ w.drew) :
    (Code.region 23 ops23 true).wp Tryd.prog Q a w := by
  have q0 : ¬ (0 : Int) < (i : Int) := by omega
  clear h0
  have g1 := getD_at h1
  have g6 := getD_at h6
  have g9 := getD_at h9
  conv => arg 2; arg 2; whnf
  refine wp_region_held_drew (S := (fun w' => w'.cell? ⟨b, 6, none⟩ = some (.slice (some ad) n cap) ∧ w'.cell? ⟨c, 0, none⟩ = some (.int .i64 x) ∧ w'.cell? ⟨c, 1, none⟩ = some (.int .i64 y))) (by kernel_rfl) ?q1 (fun hHeld => ?q2)
  case q1 => (exact ⟨hb6, hx, hy⟩)
  case q2 =>
  refine step_take 0 127 (v := .int .i64 i) hQ (by kernel_rfl) (by kernel_rfl) (by kernel_rfl) (by kernel_rfl) (by assumption) ?q3 ?q4
  case q3 => (intro o ho; obtain rfl := Option.some.inj ho; refine Or.inl ⟨by rfl, ?_⟩; intro w hSw; (try dsimp only at hSw); go_simp; (try simp [put_get, put_ne, put_size, hs]); (try with_reducible rfl); (try omega))
  case q4 =>
  refine step_take 1 128 (v := .bool false) hQ (by kernel_rfl) (by kernel_rfl) (by kernel_rfl) (by kernel_rfl) (by assumption) ?q5 ?q6
  case q5 => (intro o ho; obtain rfl := Option.some.inj ho; refine Or.inl ⟨by rfl, ?_⟩; intro w hSw; (try dsimp only at hSw); go_simp; (try simp [put_get, put_ne, put_size, hs]); (try with_reducible rfl); (try omega))
  case q6 =>
  refine step_take 2 129 (v := .bool false) hQ (by kernel_rfl) (by kernel_rfl) (by kernel_rfl) (by kernel_rfl) (by assumption) ?q7 ?q8
  case q7 => (intro o ho; obtain rfl := Option.some.inj ho; refine Or.inl ⟨by rfl, ?_⟩; intro w hSw; (try dsimp only at hSw); go_simp; (try simp [put_get, put_ne, put_size, hs]); (try with_reducible rfl); (try omega))
  case q8 =>
  refine step_skip 3 130 hQ (by kernel_rfl) (by kernel_rfl) (by kernel_rfl) (by kernel_rfl) (by assumption) ?q9 ?q10
  case q9 => (intro o ho; obtain rfl := Option.some.inj ho; go_simp; (try simp [put_get, put_ne, put_size, hs]); (try first | exact (show ¬ ((none : Option Bool) = some true) by simp) | exact (show ¬ ((none : Option Bool) = some false) by simp)))
  case q10 =>
  refine step_skip 4 131 hQ (by kernel_rfl) (by kernel_rfl) (by kernel_rfl) (by kernel_rfl) (by assumption) ?q11 ?q12
  case q11 => (intro o ho; obtain rfl := Option.some.inj ho; go_simp; (try simp [put_get, put_ne, put_size, hs]); (try first | exact (show ¬ ((none : Option Bool) = some true) by simp) | exact (show ¬ ((none : Option Bool) = some false) by simp)))
  case q12 =>
  refine step_skip 5 132 hQ (by kernel_rfl) (by kernel_rfl) (by kernel_rfl) (by kernel_rfl) (by assumption) ?q13 ?q14
  case q13 => (intro o ho; obtain rfl := Option.some.inj ho; go_simp; (try simp [put_get, put_ne, put_size, hs]); (try first | exact (show ¬ ((none : Option Bool) = some true) by simp) | exact (show ¬ ((none : Option Bool) = some false) by simp)))
  case q14 =>
  refine step_skip 6 133 hQ (by kernel_rfl) (by kernel_rfl) (by kernel_rfl) (by kernel_rfl) (by assumption) ?q15 ?q16
  case q15 => (intro o ho; obtain rfl := Option.some.inj ho; go_simp; (try simp [put_get, put_ne, put_size, hs]); (try first | exact (show ¬ ((none : Option Bool) = some true) by simp) | exact (show ¬ ((none : Option Bool) = some false) by simp)))
  case q16 =>
  refine step_skip 7 134 hQ (by kernel_rfl) (by kernel_rfl) (by kernel_rfl) (by kernel_rfl) (by assumption) ?q17 ?q18
  case q17 => (intro o ho; obtain rfl := Option.some.inj ho; go_simp; (try simp [put_get, put_ne, put_size, hs]); (try first | exact (show ¬ ((none : Option Bool) = some true) by simp) | exact (show ¬ ((none : Option Bool) = some false) by simp)))
  case q18 =>
  refine step_skip 8 135 hQ (by kernel_rfl) (by kernel_rfl) (by kernel_rfl) (by kernel_rfl) (by assumption) ?q19 ?q20
  case q19 => (intro o ho; obtain rfl := Option.some.inj ho; go_simp; (try simp [put_get, put_ne, put_size, hs]); (try first | exact (show ¬ ((none : Option Bool) = some true) by simp) | exact (show ¬ ((none : Option Bool) = some false) by simp)))
  case q20 =>
  refine step_skip 9 136 hQ (by kernel_rfl) (by kernel_rfl) (by kernel_rfl) (by kernel_rfl) (by assumption) ?q21 ?q22
  case q21 => (intro o ho; obtain rfl := Option.some.inj ho; go_simp; (try simp [put_get, put_ne, put_size, hs]); (try first | exact (show ¬ ((none : Option Bool) = some true) by simp) | exact (show ¬ ((none : Option Bool) = some false) by simp)))
  case q22 =>
  refine step_skip 10 137 hQ (by kernel_rfl) (by kernel_rfl) (by kernel_rfl) (by kernel_rfl) (by assumption) ?q23 ?q24
  case q23 => (intro o ho; obtain rfl := Option.some.inj ho; go_simp; (try simp [put_get, put_ne, put_size, hs]); (try first | exact (show ¬ ((none : Option Bool) = some true) by simp) | exact (show ¬ ((none : Option Bool) = some false) by simp)))
  case q24 =>
  refine step_skip 11 138 hQ (by kernel_rfl) (by kernel_rfl) (by kernel_rfl) (by kernel_rfl) (by assumption) ?q25 ?q26
  case q25 => (intro o ho; obtain rfl := Option.some.inj ho; go_simp; (try simp [put_get, put_ne, put_size, hs]); (try first | exact (show ¬ ((none : Option Bool) = some true) by simp) | exact (show ¬ ((none : Option Bool) = some false) by simp)))
  case q26 =>
  refine step_skip 12 139 hQ (by kernel_rfl) (by kernel_rfl) (by kernel_rfl) (by kernel_rfl) (by assumption) ?q27 ?q28
  case q27 => (intro o ho; obtain rfl := Option.some.inj ho; go_simp; (try simp [put_get, put_ne, put_size, hs]); (try first | exact (show ¬ ((none : Option Bool) = some true) by simp) | exact (show ¬ ((none : Option Bool) = some false) by simp)))
  case q28 =>
  refine step_skip 13 140 hQ (by kernel_rfl) (by kernel_rfl) (by kernel_rfl) (by kernel_rfl) (by assumption) ?q29 ?q30
  case q29 => (intro o ho; obtain rfl := Option.some.inj ho; go_simp; (try simp [put_get, put_ne, put_size, hs]); (try first | exact (show ¬ ((none : Option Bool) = some true) by simp) | exact (show ¬ ((none : Option Bool) = some false) by simp)))
  case q30 =>
  refine step_skip 14 141 hQ (by kernel_rfl) (by kernel_rfl) (by kernel_rfl) (by kernel_rfl) (by assumption) ?q31 ?q32
  case q31 => (intro o ho; obtain rfl := Option.some.inj ho; go_simp; (try simp [put_get, put_ne, put_size, hs]); (try first | exact (show ¬ ((none : Option Bool) = some true) by simp) | exact (show ¬ ((none : Option Bool) = some false) by simp)))
  case q32 =>
  refine step_skip 15 142 hQ (by kernel_rfl) (by kernel_rfl) (by kernel_rfl) (by kernel_rfl) (by assumption) ?q33 ?q34
  case q33 => (intro o ho; obtain rfl := Option.some.inj ho; go_simp; (try simp [put_get, put_ne, put_size, hs]); (try first | exact (show ¬ ((none : Option Bool) = some true) by simp) | exact (show ¬ ((none : Option Bool) = some false) by simp)))
  case q34 =>
  refine step_skip 16 143 hQ (by kernel_rfl) (by kernel_rfl) (by kernel_rfl) (by kernel_rfl) (by assumption) ?q35 ?q36
  case q35 => (intro o ho; obtain rfl := Option.some.inj ho; go_simp; (try simp [put_get, put_ne, put_size, hs]); (try first | exact (show ¬ ((none : Option Bool) = some true) by simp) | exact (show ¬ ((none : Option Bool) = some false) by simp)))
  case q36 =>
  refine step_skip 17 144 hQ (by kernel_rfl) (by kernel_rfl) (by kernel_rfl) (by kernel_rfl) (by assumption) ?q37 ?q38
  case q37 => (intro o ho; obtain rfl := Option.some.inj ho; go_simp; (try simp [put_get, put_ne, put_size, hs]); (try first | exact (show ¬ ((none : Option Bool) = some true) by simp) | exact (show ¬ ((none : Option Bool) = some false) by simp)))
  case q38 =>
  refine step_skip 18 145 hQ (by kernel_rfl) (by kernel_rfl) (by kernel_rfl) (by kernel_rfl) (by assumption) ?q39 ?q40
  case q39 => (intro o ho; obtain rfl := Option.some.inj ho; go_simp; (try simp [put_get, put_ne, put_size, hs]); (try first | exact (show ¬ ((none : Option Bool) = some true) by simp) | exact (show ¬ ((none : Option Bool) = some false) by simp)))
  case q40 =>
  refine step_skip 19 146 hQ (by kernel_rfl) (by kernel_rfl) (by kernel_rfl) (by kernel_rfl) (by assumption) ?q41 ?q42
  case q41 => (intro o ho; obtain rfl := Option.some.inj ho; go_simp; (try simp [put_get, put_ne, put_size, hs]); (try first | exact (show ¬ ((none : Option Bool) = some true) by simp) | exact (show ¬ ((none : Option Bool) = some false) by simp)))
  case q42 =>
  refine step_skip 20 147 hQ (by kernel_rfl) (by kernel_rfl) (by kernel_rfl) (by kernel_rfl) (by assumption) ?q43 ?q44
  case q43 => (intro o ho; obtain rfl := Option.some.inj ho; go_simp; (try simp [put_get, put_ne, put_size, hs]); (try first | exact (show ¬ ((none : Option Bool) = some true) by simp) | exact (show ¬ ((none : Option Bool) = some false) by simp)))
  case q44 =>
  refine step_skip 21 148 hQ (by kernel_rfl) (by kernel_rfl) (by kernel_rfl) (by kernel_rfl) (by assumption) ?q45 ?q46
  case q45 => (intro o ho; obtain rfl := Option.some.inj ho; go_simp; (try simp [put_get, put_ne, put_size, hs]); (try first | exact (show ¬ ((none : Option Bool) = some true) by simp) | exact (show ¬ ((none : Option Bool) = some false) by simp)))
  case q46 =>
  refine step_skip 22 149 hQ (by kernel_rfl) (by kernel_rfl) (by kernel_rfl) (by kernel_rfl) (by assumption) ?q47 ?q48
  case q47 => (intro o ho; obtain rfl := Option.some.inj ho; go_simp; (try simp [put_get, put_ne, put_size, hs]); (try first | exact (show ¬ ((none : Option Bool) = some true) by simp) | exact (show ¬ ((none : Option Bool) = some false) by simp)))
  case q48 =>
  refine step_skip 23 150 hQ (by kernel_rfl) (by kernel_rfl) (by kernel_rfl) (by kernel_rfl) (by assumption) ?q49 ?q50
  case q49 => (intro o ho; obtain rfl := Option.some.inj ho; go_simp; (try simp [put_get, put_ne, put_size, hs]); (try first | exact (show ¬ ((none : Option Bool) = some true) by simp) | exact (show ¬ ((none : Option Bool) = some false) by simp)))
  case q50 =>
  refine step_skip 24 151 hQ (by kernel_rfl) (by kernel_rfl) (by kernel_rfl) (by kernel_rfl) (by assumption) ?q51 ?q52
  case q51 => (intro o ho; obtain rfl := Option.some.inj ho; go_simp; (try simp [put_get, put_ne, put_size, hs]); (try first | exact (show ¬ ((none : Option Bool) = some true) by simp) | exact (show ¬ ((none : Option Bool) = some false) by simp)))
  case q52 =>
  refine step_skip 25 152 hQ (by kernel_rfl) (by kernel_rfl) (by kernel_rfl) (by kernel_rfl) (by assumption) ?q53 ?q54
  case q53 => (intro o ho; obtain rfl := Option.some.inj ho; go_simp; (try simp [put_get, put_ne, put_size, hs]); (try first | exact (show ¬ ((none : Option Bool) = some true) by simp) | exact (show ¬ ((none : Option Bool) = some false) by simp)))
  case q54 =>
  refine step_skip 26 153 hQ (by kernel_rfl) (by kernel_rfl) (by kernel_rfl) (by kernel_rfl) (by assumption) ?q55 ?q56
  case q55 => (intro o ho; obtain rfl := Option.some.inj ho; go_simp; (try simp [put_get, put_ne, put_size, hs]); (try first | exact (show ¬ ((none : Option Bool) = some true) by simp) | exact (show ¬ ((none : Option Bool) = some false) by simp)))
  case q56 =>
  refine step_skip 27 154 hQ (by kernel_rfl) (by kernel_rfl) (by kernel_rfl) (by kernel_rfl) (by assumption) ?q57 ?q58
  case q57 => (intro o ho; obtain rfl := Option.some.inj ho; go_simp; (try simp [put_get, put_ne, put_size, hs]); (try first | exact (show ¬ ((none : Option Bool) = some true) by simp) | exact (show ¬ ((none : Option Bool) = some false) by simp)))
  case q58 =>
  refine step_skip 28 155 hQ (by kernel_rfl) (by kernel_rfl) (by kernel_rfl) (by kernel_rfl) (by assumption) ?q59 ?q60
  case q59 => (intro o ho; obtain rfl := Option.some.inj ho; go_simp; (try simp [put_get, put_ne, put_size, hs]); (try first | exact (show ¬ ((none : Option Bool) = some true) by simp) | exact (show ¬ ((none : Option Bool) = some false) by simp)))
  case q60 =>
  refine step_skip 29 156 hQ (by kernel_rfl) (by kernel_rfl) (by kernel_rfl) (by kernel_rfl) (by assumption) ?q61 ?q62
  case q61 => (intro o ho; obtain rfl := Option.some.inj ho; go_simp; (try simp [put_get, put_ne, put_size, hs]); (try first | exact (show ¬ ((none : Option Bool) = some true) by simp) | exact (show ¬ ((none : Option Bool) = some false) by simp)))
  case q62 =>
  refine step_skip 30 157 hQ (by kernel_rfl) (by kernel_rfl) (by kernel_rfl) (by kernel_rfl) (by assumption) ?q63 ?q64
  case q63 => (intro o ho; obtain rfl := Option.some.inj ho; go_simp; (try simp [put_get, put_ne, put_size, hs]); (try first | exact (show ¬ ((none : Option Bool) = some true) by simp) | exact (show ¬ ((none : Option Bool) = some false) by simp)))
  case q64 =>
  refine step_skip 31 158 hQ (by kernel_rfl) (by kernel_rfl) (by kernel_rfl) (by kernel_rfl) (by assumption) ?q65 ?q66
  case q65 => (intro o ho; obtain rfl := Option.some.inj ho; go_simp; (try simp [put_get, put_ne, put_size, hs]); (try first | exact (show ¬ ((none : Option Bool) = some true) by simp) | exact (show ¬ ((none : Option Bool) = some false) by simp)))
  case q66 =>
  refine step_skip 32 159 hQ (by kernel_rfl) (by kernel_rfl) (by kernel_rfl) (by kernel_rfl) (by assumption) ?q67 ?q68
  case q67 => (intro o ho; obtain rfl := Option.some.inj ho; go_simp; (try simp [put_get, put_ne, put_size, hs]); (try first | exact (show ¬ ((none : Option Bool) = some true) by simp) | exact (show ¬ ((none : Option Bool) = some false) by simp)))
  case q68 =>
  refine step_skip 33 160 hQ (by kernel_rfl) (by kernel_rfl) (by kernel_rfl) (by kernel_rfl) (by assumption) ?q69 ?q70
  case q69 => (intro o ho; obtain rfl := Option.some.inj ho; go_simp; (try simp [put_get, put_ne, put_size, hs]); (try first | exact (show ¬ ((none : Option Bool) = some true) by simp) | exact (show ¬ ((none : Option Bool) = some false) by simp)))
  case q70 =>
  refine step_skip 34 161 hQ (by kernel_rfl) (by kernel_rfl) (by kernel_rfl) (by kernel_rfl) (by assumption) ?q71 ?q72
  case q71 => (intro o ho; obtain rfl := Option.some.inj ho; go_simp; (try simp [put_get, put_ne, put_size, hs]); (try first | exact (show ¬ ((none : Option Bool) = some true) by simp) | exact (show ¬ ((none : Option Bool) = some false) by simp)))
  case q72 =>
  refine step_skip 35 162 hQ (by kernel_rfl) (by kernel_rfl) (by kernel_rfl) (by kernel_rfl) (by assumption) ?q73 ?q74
  case q73 => (intro o ho; obtain rfl := Option.some.inj ho; go_simp; (try simp [put_get, put_ne, put_size, hs]); (try first | exact (show ¬ ((none : Option Bool) = some true) by simp) | exact (show ¬ ((none : Option Bool) = some false) by simp)))
  case q74 =>
  refine step_skip 36 163 hQ (by kernel_rfl) (by kernel_rfl) (by kernel_rfl) (by kernel_rfl) (by assumption) ?q75 ?q76
  case q75 => (intro o ho; obtain rfl := Option.some.inj ho; go_simp; (try simp [put_get, put_ne, put_size, hs]); (try first | exact (show ¬ ((none : Option Bool) = some true) by simp) | exact (show ¬ ((none : Option Bool) = some false) by simp)))
  case q76 =>
  refine step_take 37 164 (v := .bool false) hQ (by kernel_rfl) (by kernel_rfl) (by kernel_rfl) (by kernel_rfl) (by assumption) ?q77 ?q78
  case q77 => (intro o ho; obtain rfl := Option.some.inj ho; refine Or.inl ⟨by rfl, ?_⟩; intro w hSw; (try dsimp only at hSw); go_simp; (try simp [put_get, put_ne, put_size, hs]); (try with_reducible rfl); (try omega))
  case q78 =>
  refine step_take 38 8 (v := .bool false) hQ (by kernel_rfl) (by kernel_rfl) (by kernel_rfl) (by kernel_rfl) (by assumption) ?q79 ?q80
  case q79 => (intro o ho; obtain rfl := Option.some.inj ho; refine Or.inl ⟨by rfl, ?_⟩; intro w hSw; (try dsimp only at hSw); go_simp; (try simp [put_get, put_ne, put_size, hs]); (try with_reducible rfl); (try omega))
  case q80 =>
  refine wpAnyH_done (by kernel_rfl) ?_ _
  simp only [Act.put]
  refine hR _ ?_ (set_get (by simp [hs]))
  repeat (with_reducible refine Keep.set ?_ _ _ (by decide))
  with_reducible exact Keep.refl _ _ _ _

set_option maxRecDepth 100000 in
set_option maxHeartbeats 1000000 in
theorem reg23_more (a : Act) (w : World) (Q : Exit → Act → World → Prop) (hQ : Blind Q) (ad : Addr) (b c n cap i : Nat) (x y : Int) (hs : a.tmps.size = 236) (h1 : a.tmps.getD 1 undef = .pointer (some ⟨b, 0, none⟩)) (h6 : a.tmps.getD 6 undef = .int .i64 i) (h9 : a.tmps.getD 9 undef = .pointer (some ⟨c, 0, none⟩))
    (hb6 : w.cell? ⟨b, 6, none⟩ = some (.slice (some ad) n cap)) (hx : w.cell? ⟨c, 0, none⟩ = some (.int .i64 x)) (hy : w.cell? ⟨c, 1, none⟩ = some (.int .i64 y)) (hi : i < n) (hn : n ≤ 64) (h0 : 0 < i) (px py : Int) (hpx : w.cell? (ad.add ((i - 1) * 2)) = some (.int .i64 px)) (hpy : w.cell? ⟨(ad.add ((i - 1) * 2)).block, (ad.add ((i - 1) * 2)).off + 1, none⟩ = some (.int .i64 py)) (hq : x < px)
    (hR : ∀ t, Keep 127 164 8 a.tmps t → t.getD 8 undef = .bool true → Q .normal ⟨t, a.defers⟩ w.drew) :
    (Code.region 23 ops23 true).wp Tryd.prog Q a w := by
  have q2 : (0 : Int) ≤ (i : Int) - 1 := by omega
  have q3 : (1 : Int) ≤ (i : Int) := by omega
  have q4 : (i : Int) - 1 < (n : Int) := by omega
  have q5 : ((i : Int) - 1).toNat = i - 1 := by omega
  have q1 : IntKind.i64.wrap ((i : Int) - 1) = (i : Int) - 1 := IntWalk.i64_in _ (by omega)
  have g1 := getD_at h1
  have g6 := getD_at h6
  have g9 := getD_at h9
  conv => arg 2; arg 2; whnf
  refine wp_region_held_drew (S := (fun w' => w'.cell? ⟨b, 6, none⟩ = some (.slice (some ad) n cap) ∧ w'.cell? ⟨c, 0, none⟩ = some (.int .i64 x) ∧ w'.cell? ⟨c, 1, none⟩ = some (.int .i64 y) ∧ w'.cell? (ad.add ((i - 1) * 2)) = some (.int .i64 px) ∧ w'.cell? ⟨(ad.add ((i - 1) * 2)).block, (ad.add ((i - 1) * 2)).off + 1, none⟩ = some (.int .i64 py))) (by kernel_rfl) ?q81 (fun hHeld => ?q82)
  case q81 => (exact ⟨hb6, hx, hy, hpx, hpy⟩)
  case q82 =>
  refine step_take 0 127 (v := .int .i64 i) hQ (by kernel_rfl) (by kernel_rfl) (by kernel_rfl) (by kernel_rfl) (by assumption) ?q83 ?q84
  case q83 => (intro o ho; obtain rfl := Option.some.inj ho; refine Or.inl ⟨by rfl, ?_⟩; intro w hSw; (try dsimp only at hSw); go_simp; (try simp [put_get, put_ne, put_size, hs]); (try with_reducible rfl); (try omega))
  case q84 =>
  refine step_take 1 128 (v := .bool true) hQ (by kernel_rfl) (by kernel_rfl) (by kernel_rfl) (by kernel_rfl) (by assumption) ?q85 ?q86
  case q85 => (intro o ho; obtain rfl := Option.some.inj ho; refine Or.inl ⟨by rfl, ?_⟩; intro w hSw; (try dsimp only at hSw); go_simp; (try simp [put_get, put_ne, put_size, hs]); (try with_reducible rfl); (try omega))
  case q86 =>
  refine step_take 2 129 (v := .bool true) hQ (by kernel_rfl) (by kernel_rfl) (by kernel_rfl) (by kernel_rfl) (by assumption) ?q87 ?q88
  case q87 => (intro o ho; obtain rfl := Option.some.inj ho; refine Or.inl ⟨by rfl, ?_⟩; intro w hSw; (try dsimp only at hSw); go_simp; (try simp [put_get, put_ne, put_size, hs]); (try with_reducible rfl); (try omega))
  case q88 =>
  refine step_take 3 130 (v := .pointer (some ⟨b, 6, none⟩)) hQ (by kernel_rfl) (by kernel_rfl) (by kernel_rfl) (by kernel_rfl) (by assumption) ?q89 ?q90
  case q89 => (intro o ho; obtain rfl := Option.some.inj ho; refine Or.inl ⟨by go_simp, ?_⟩; intro w hSw; (try dsimp only at hSw); go_simp; (try simp [put_get, put_ne, put_size, hs]); (try with_reducible rfl); (try omega))
  case q90 =>
  refine step_take 4 131 (v := .slice (some ad) n cap) hQ (by kernel_rfl) (by kernel_rfl) (by kernel_rfl) (by kernel_rfl) (by assumption) ?q91 ?q92
  case q91 => (intro o ho; obtain rfl := Option.some.inj ho; refine Or.inl ⟨by go_simp, ?_⟩; intro w hSw; (try dsimp only at hSw); go_simp; (try simp [put_get, put_ne, put_size, hs]); (try with_reducible rfl); (try omega))
  case q92 =>
  refine step_take 5 132 (v := .int .i64 i) hQ (by kernel_rfl) (by kernel_rfl) (by kernel_rfl) (by kernel_rfl) (by assumption) ?q93 ?q94
  case q93 => (intro o ho; obtain rfl := Option.some.inj ho; refine Or.inl ⟨by go_simp, ?_⟩; intro w hSw; (try dsimp only at hSw); go_simp; (try simp [put_get, put_ne, put_size, hs]); (try with_reducible rfl); (try omega))
  case q94 =>
  refine step_take 6 133 (v := .int .i64 ((i : Int) - 1)) hQ (by kernel_rfl) (by kernel_rfl) (by kernel_rfl) (by kernel_rfl) (by assumption) ?q95 ?q96
  case q95 => (intro o ho; obtain rfl := Option.some.inj ho; refine Or.inl ⟨by go_simp, ?_⟩; intro w hSw; (try dsimp only at hSw); go_simp; (try simp [put_get, put_ne, put_size, hs]); (try with_reducible rfl); (try omega))
  case q96 =>
  refine step_take 7 134 (v := .pointer (some (ad.add ((i - 1) * 2)))) hQ (by kernel_rfl) (by kernel_rfl) (by kernel_rfl) (by kernel_rfl) (by assumption) ?q97 ?q98
  case q97 => (intro o ho; obtain rfl := Option.some.inj ho; refine Or.inl ⟨by go_simp, ?_⟩; intro w hSw; (try dsimp only at hSw); go_simp; (try simp [put_get, put_ne, put_size, hs]); (try with_reducible rfl); (try omega))
  case q98 =>
  refine step_take 8 135 (v := .pointer (some (ad.add ((i - 1) * 2)))) hQ (by kernel_rfl) (by kernel_rfl) (by kernel_rfl) (by kernel_rfl) (by assumption) ?q99 ?q100
  case q99 => (intro o ho; obtain rfl := Option.some.inj ho; refine Or.inl ⟨by go_simp, ?_⟩; intro w hSw; (try dsimp only at hSw); go_simp; (try simp [put_get, put_ne, put_size, hs]); (try with_reducible rfl); (try omega))
  case q100 =>
  refine step_take 9 136 (v := .int .i64 px) hQ (by kernel_rfl) (by kernel_rfl) (by kernel_rfl) (by kernel_rfl) (by assumption) ?q101 ?q102
  case q101 => (intro o ho; obtain rfl := Option.some.inj ho; refine Or.inl ⟨by go_simp, ?_⟩; intro w hSw; (try dsimp only at hSw); go_simp; (try simp [put_get, put_ne, put_size, hs]); (try with_reducible rfl); (try omega))
  case q102 =>
  refine step_take 10 137 (v := .pointer (some ⟨c, 0, none⟩)) hQ (by kernel_rfl) (by kernel_rfl) (by kernel_rfl) (by kernel_rfl) (by assumption) ?q103 ?q104
  case q103 => (intro o ho; obtain rfl := Option.some.inj ho; refine Or.inl ⟨by go_simp, ?_⟩; intro w hSw; (try dsimp only at hSw); go_simp; (try simp [put_get, put_ne, put_size, hs]); (try with_reducible rfl); (try omega))
  case q104 =>
  refine step_take 11 138 (v := .int .i64 x) hQ (by kernel_rfl) (by kernel_rfl) (by kernel_rfl) (by kernel_rfl) (by assumption) ?q105 ?q106
  case q105 => (intro o ho; obtain rfl := Option.some.inj ho; refine Or.inl ⟨by go_simp, ?_⟩; intro w hSw; (try dsimp only at hSw); go_simp; (try simp [put_get, put_ne, put_size, hs]); (try with_reducible rfl); (try omega))
  case q106 =>
  refine step_take 12 139 (v := .bool true) hQ (by kernel_rfl) (by kernel_rfl) (by kernel_rfl) (by kernel_rfl) (by assumption) ?q107 ?q108
  case q107 => (intro o ho; obtain rfl := Option.some.inj ho; refine Or.inl ⟨by go_simp, ?_⟩; intro w hSw; (try dsimp only at hSw); go_simp; (try simp [put_get, put_ne, put_size, hs]); (try with_reducible rfl); (try omega))
  case q108 =>
  refine step_take 13 140 (v := .bool true) hQ (by kernel_rfl) (by kernel_rfl) (by kernel_rfl) (by kernel_rfl) (by assumption) ?q109 ?q110
  case q109 => (intro o ho; obtain rfl := Option.some.inj ho; refine Or.inl ⟨by go_simp, ?_⟩; intro w hSw; (try dsimp only at hSw); go_simp; (try simp [put_get, put_ne, put_size, hs]); (try with_reducible rfl); (try omega))
  case q110 =>
  refine step_skip 14 141 hQ (by kernel_rfl) (by kernel_rfl) (by kernel_rfl) (by kernel_rfl) (by assumption) ?q111 ?q112
  case q111 => (intro o ho; obtain rfl := Option.some.inj ho; go_simp; (try simp [put_get, put_ne, put_size, hs]); (try first | exact (show ¬ ((none : Option Bool) = some true) by simp) | exact (show ¬ ((none : Option Bool) = some false) by simp)))
  case q112 =>
  refine step_skip 15 142 hQ (by kernel_rfl) (by kernel_rfl) (by kernel_rfl) (by kernel_rfl) (by assumption) ?q113 ?q114
  case q113 => (intro o ho; obtain rfl := Option.some.inj ho; go_simp; (try simp [put_get, put_ne, put_size, hs]); (try first | exact (show ¬ ((none : Option Bool) = some true) by simp) | exact (show ¬ ((none : Option Bool) = some false) by simp)))
  case q114 =>
  refine step_skip 16 143 hQ (by kernel_rfl) (by kernel_rfl) (by kernel_rfl) (by kernel_rfl) (by assumption) ?q115 ?q116
  case q115 => (intro o ho; obtain rfl := Option.some.inj ho; go_simp; (try simp [put_get, put_ne, put_size, hs]); (try first | exact (show ¬ ((none : Option Bool) = some true) by simp) | exact (show ¬ ((none : Option Bool) = some false) by simp)))
  case q116 =>
  refine step_skip 17 144 hQ (by kernel_rfl) (by kernel_rfl) (by kernel_rfl) (by kernel_rfl) (by assumption) ?q117 ?q118
  case q117 => (intro o ho; obtain rfl := Option.some.inj ho; go_simp; (try simp [put_get, put_ne, put_size, hs]); (try first | exact (show ¬ ((none : Option Bool) = some true) by simp) | exact (show ¬ ((none : Option Bool) = some false) by simp)))
  case q118 =>
  refine step_skip 18 145 hQ (by kernel_rfl) (by kernel_rfl) (by kernel_rfl) (by kernel_rfl) (by assumption) ?q119 ?q120
  case q119 => (intro o ho; obtain rfl := Option.some.inj ho; go_simp; (try simp [put_get, put_ne, put_size, hs]); (try first | exact (show ¬ ((none : Option Bool) = some true) by simp) | exact (show ¬ ((none : Option Bool) = some false) by simp)))
  case q120 =>
  refine step_skip 19 146 hQ (by kernel_rfl) (by kernel_rfl) (by kernel_rfl) (by kernel_rfl) (by assumption) ?q121 ?q122
  case q121 => (intro o ho; obtain rfl := Option.some.inj ho; go_simp; (try simp [put_get, put_ne, put_size, hs]); (try first | exact (show ¬ ((none : Option Bool) = some true) by simp) | exact (show ¬ ((none : Option Bool) = some false) by simp)))
  case q122 =>
  refine step_skip 20 147 hQ (by kernel_rfl) (by kernel_rfl) (by kernel_rfl) (by kernel_rfl) (by assumption) ?q123 ?q124
  case q123 => (intro o ho; obtain rfl := Option.some.inj ho; go_simp; (try simp [put_get, put_ne, put_size, hs]); (try first | exact (show ¬ ((none : Option Bool) = some true) by simp) | exact (show ¬ ((none : Option Bool) = some false) by simp)))
  case q124 =>
  refine step_skip 21 148 hQ (by kernel_rfl) (by kernel_rfl) (by kernel_rfl) (by kernel_rfl) (by assumption) ?q125 ?q126
  case q125 => (intro o ho; obtain rfl := Option.some.inj ho; go_simp; (try simp [put_get, put_ne, put_size, hs]); (try first | exact (show ¬ ((none : Option Bool) = some true) by simp) | exact (show ¬ ((none : Option Bool) = some false) by simp)))
  case q126 =>
  refine step_skip 22 149 hQ (by kernel_rfl) (by kernel_rfl) (by kernel_rfl) (by kernel_rfl) (by assumption) ?q127 ?q128
  case q127 => (intro o ho; obtain rfl := Option.some.inj ho; go_simp; (try simp [put_get, put_ne, put_size, hs]); (try first | exact (show ¬ ((none : Option Bool) = some true) by simp) | exact (show ¬ ((none : Option Bool) = some false) by simp)))
  case q128 =>
  refine step_skip 23 150 hQ (by kernel_rfl) (by kernel_rfl) (by kernel_rfl) (by kernel_rfl) (by assumption) ?q129 ?q130
  case q129 => (intro o ho; obtain rfl := Option.some.inj ho; go_simp; (try simp [put_get, put_ne, put_size, hs]); (try first | exact (show ¬ ((none : Option Bool) = some true) by simp) | exact (show ¬ ((none : Option Bool) = some false) by simp)))
  case q130 =>
  refine step_skip 24 151 hQ (by kernel_rfl) (by kernel_rfl) (by kernel_rfl) (by kernel_rfl) (by assumption) ?q131 ?q132
  case q131 => (intro o ho; obtain rfl := Option.some.inj ho; go_simp; (try simp [put_get, put_ne, put_size, hs]); (try first | exact (show ¬ ((none : Option Bool) = some true) by simp) | exact (show ¬ ((none : Option Bool) = some false) by simp)))
  case q132 =>
  refine step_skip 25 152 hQ (by kernel_rfl) (by kernel_rfl) (by kernel_rfl) (by kernel_rfl) (by assumption) ?q133 ?q134
  case q133 => (intro o ho; obtain rfl := Option.some.inj ho; go_simp; (try simp [put_get, put_ne, put_size, hs]); (try first | exact (show ¬ ((none : Option Bool) = some true) by simp) | exact (show ¬ ((none : Option Bool) = some false) by simp)))
  case q134 =>
  refine step_skip 26 153 hQ (by kernel_rfl) (by kernel_rfl) (by kernel_rfl) (by kernel_rfl) (by assumption) ?q135 ?q136
  case q135 => (intro o ho; obtain rfl := Option.some.inj ho; go_simp; (try simp [put_get, put_ne, put_size, hs]); (try first | exact (show ¬ ((none : Option Bool) = some true) by simp) | exact (show ¬ ((none : Option Bool) = some false) by simp)))
  case q136 =>
  refine step_skip 27 154 hQ (by kernel_rfl) (by kernel_rfl) (by kernel_rfl) (by kernel_rfl) (by assumption) ?q137 ?q138
  case q137 => (intro o ho; obtain rfl := Option.some.inj ho; go_simp; (try simp [put_get, put_ne, put_size, hs]); (try first | exact (show ¬ ((none : Option Bool) = some true) by simp) | exact (show ¬ ((none : Option Bool) = some false) by simp)))
  case q138 =>
  refine step_skip 28 155 hQ (by kernel_rfl) (by kernel_rfl) (by kernel_rfl) (by kernel_rfl) (by assumption) ?q139 ?q140
  case q139 => (intro o ho; obtain rfl := Option.some.inj ho; go_simp; (try simp [put_get, put_ne, put_size, hs]); (try first | exact (show ¬ ((none : Option Bool) = some true) by simp) | exact (show ¬ ((none : Option Bool) = some false) by simp)))
  case q140 =>
  refine step_skip 29 156 hQ (by kernel_rfl) (by kernel_rfl) (by kernel_rfl) (by kernel_rfl) (by assumption) ?q141 ?q142
  case q141 => (intro o ho; obtain rfl := Option.some.inj ho; go_simp; (try simp [put_get, put_ne, put_size, hs]); (try first | exact (show ¬ ((none : Option Bool) = some true) by simp) | exact (show ¬ ((none : Option Bool) = some false) by simp)))
  case q142 =>
  refine step_skip 30 157 hQ (by kernel_rfl) (by kernel_rfl) (by kernel_rfl) (by kernel_rfl) (by assumption) ?q143 ?q144
  case q143 => (intro o ho; obtain rfl := Option.some.inj ho; go_simp; (try simp [put_get, put_ne, put_size, hs]); (try first | exact (show ¬ ((none : Option Bool) = some true) by simp) | exact (show ¬ ((none : Option Bool) = some false) by simp)))
  case q144 =>
  refine step_skip 31 158 hQ (by kernel_rfl) (by kernel_rfl) (by kernel_rfl) (by kernel_rfl) (by assumption) ?q145 ?q146
  case q145 => (intro o ho; obtain rfl := Option.some.inj ho; go_simp; (try simp [put_get, put_ne, put_size, hs]); (try first | exact (show ¬ ((none : Option Bool) = some true) by simp) | exact (show ¬ ((none : Option Bool) = some false) by simp)))
  case q146 =>
  refine step_skip 32 159 hQ (by kernel_rfl) (by kernel_rfl) (by kernel_rfl) (by kernel_rfl) (by assumption) ?q147 ?q148
  case q147 => (intro o ho; obtain rfl := Option.some.inj ho; go_simp; (try simp [put_get, put_ne, put_size, hs]); (try first | exact (show ¬ ((none : Option Bool) = some true) by simp) | exact (show ¬ ((none : Option Bool) = some false) by simp)))
  case q148 =>
  refine step_skip 33 160 hQ (by kernel_rfl) (by kernel_rfl) (by kernel_rfl) (by kernel_rfl) (by assumption) ?q149 ?q150
  case q149 => (intro o ho; obtain rfl := Option.some.inj ho; go_simp; (try simp [put_get, put_ne, put_size, hs]); (try first | exact (show ¬ ((none : Option Bool) = some true) by simp) | exact (show ¬ ((none : Option Bool) = some false) by simp)))
  case q150 =>
  refine step_skip 34 161 hQ (by kernel_rfl) (by kernel_rfl) (by kernel_rfl) (by kernel_rfl) (by assumption) ?q151 ?q152
  case q151 => (intro o ho; obtain rfl := Option.some.inj ho; go_simp; (try simp [put_get, put_ne, put_size, hs]); (try first | exact (show ¬ ((none : Option Bool) = some true) by simp) | exact (show ¬ ((none : Option Bool) = some false) by simp)))
  case q152 =>
  refine step_skip 35 162 hQ (by kernel_rfl) (by kernel_rfl) (by kernel_rfl) (by kernel_rfl) (by assumption) ?q153 ?q154
  case q153 => (intro o ho; obtain rfl := Option.some.inj ho; go_simp; (try simp [put_get, put_ne, put_size, hs]); (try first | exact (show ¬ ((none : Option Bool) = some true) by simp) | exact (show ¬ ((none : Option Bool) = some false) by simp)))
  case q154 =>
  refine step_take 36 163 (v := .bool true) hQ (by kernel_rfl) (by kernel_rfl) (by kernel_rfl) (by kernel_rfl) (by assumption) ?q155 ?q156
  case q155 => (intro o ho; obtain rfl := Option.some.inj ho; refine Or.inl ⟨by go_simp, ?_⟩; intro w hSw; (try dsimp only at hSw); go_simp; (try simp [put_get, put_ne, put_size, hs]); (try with_reducible rfl); (try omega))
  case q156 =>
  refine step_take 37 164 (v := .bool true) hQ (by kernel_rfl) (by kernel_rfl) (by kernel_rfl) (by kernel_rfl) (by assumption) ?q157 ?q158
  case q157 => (intro o ho; obtain rfl := Option.some.inj ho; refine Or.inl ⟨by rfl, ?_⟩; intro w hSw; (try dsimp only at hSw); go_simp; (try simp [put_get, put_ne, put_size, hs]); (try with_reducible rfl); (try omega))
  case q158 =>
  refine step_take 38 8 (v := .bool true) hQ (by kernel_rfl) (by kernel_rfl) (by kernel_rfl) (by kernel_rfl) (by assumption) ?q159 ?q160
  case q159 => (intro o ho; obtain rfl := Option.some.inj ho; refine Or.inl ⟨by rfl, ?_⟩; intro w hSw; (try dsimp only at hSw); go_simp; (try simp [put_get, put_ne, put_size, hs]); (try with_reducible rfl); (try omega))
  case q160 =>
  refine wpAnyH_done (by kernel_rfl) ?_ _
  simp only [Act.put]
  refine hR _ ?_ (set_get (by simp [hs]))
  repeat (with_reducible refine Keep.set ?_ _ _ (by decide))
  with_reducible exact Keep.refl _ _ _ _

set_option maxRecDepth 100000 in
set_option maxHeartbeats 1000000 in
theorem reg23_sameLate (a : Act) (w : World) (Q : Exit → Act → World → Prop) (hQ : Blind Q) (ad : Addr) (b c n cap i : Nat) (x y : Int) (hs : a.tmps.size = 236) (h1 : a.tmps.getD 1 undef = .pointer (some ⟨b, 0, none⟩)) (h6 : a.tmps.getD 6 undef = .int .i64 i) (h9 : a.tmps.getD 9 undef = .pointer (some ⟨c, 0, none⟩))
    (hb6 : w.cell? ⟨b, 6, none⟩ = some (.slice (some ad) n cap)) (hx : w.cell? ⟨c, 0, none⟩ = some (.int .i64 x)) (hy : w.cell? ⟨c, 1, none⟩ = some (.int .i64 y)) (hi : i < n) (hn : n ≤ 64) (h0 : 0 < i) (py : Int) (hpx : w.cell? (ad.add ((i - 1) * 2)) = some (.int .i64 x)) (hpy : w.cell? ⟨(ad.add ((i - 1) * 2)).block, (ad.add ((i - 1) * 2)).off + 1, none⟩ = some (.int .i64 py)) (hr : y ≤ py)
    (hR : ∀ t, Keep 127 164 8 a.tmps t → t.getD 8 undef = .bool true → Q .normal ⟨t, a.defers⟩ w.drew) :
    (Code.region 23 ops23 true).wp Tryd.prog Q a w := by
  have q2 : (0 : Int) ≤ (i : Int) - 1 := by omega
  have q3 : (1 : Int) ≤ (i : Int) := by omega
  have q4 : (i : Int) - 1 < (n : Int) := by omega
  have q5 : ((i : Int) - 1).toNat = i - 1 := by omega
  have q1 : IntKind.i64.wrap ((i : Int) - 1) = (i : Int) - 1 := IntWalk.i64_in _ (by omega)
  have g1 := getD_at h1
  have g6 := getD_at h6
  have g9 := getD_at h9
  conv => arg 2; arg 2; whnf
  refine wp_region_held_drew (S := (fun w' => w'.cell? ⟨b, 6, none⟩ = some (.slice (some ad) n cap) ∧ w'.cell? ⟨c, 0, none⟩ = some (.int .i64 x) ∧ w'.cell? ⟨c, 1, none⟩ = some (.int .i64 y) ∧ w'.cell? (ad.add ((i - 1) * 2)) = some (.int .i64 x) ∧ w'.cell? ⟨(ad.add ((i - 1) * 2)).block, (ad.add ((i - 1) * 2)).off + 1, none⟩ = some (.int .i64 py))) (by kernel_rfl) ?q161 (fun hHeld => ?q162)
  case q161 => (exact ⟨hb6, hx, hy, hpx, hpy⟩)
  case q162 =>
  refine step_take 0 127 (v := .int .i64 i) hQ (by kernel_rfl) (by kernel_rfl) (by kernel_rfl) (by kernel_rfl) (by assumption) ?q163 ?q164
  case q163 => (intro o ho; obtain rfl := Option.some.inj ho; refine Or.inl ⟨by rfl, ?_⟩; intro w hSw; (try dsimp only at hSw); go_simp; (try simp [put_get, put_ne, put_size, hs]); (try with_reducible rfl); (try omega))
  case q164 =>
  refine step_take 1 128 (v := .bool true) hQ (by kernel_rfl) (by kernel_rfl) (by kernel_rfl) (by kernel_rfl) (by assumption) ?q165 ?q166
  case q165 => (intro o ho; obtain rfl := Option.some.inj ho; refine Or.inl ⟨by rfl, ?_⟩; intro w hSw; (try dsimp only at hSw); go_simp; (try simp [put_get, put_ne, put_size, hs]); (try with_reducible rfl); (try omega))
  case q166 =>
  refine step_take 2 129 (v := .bool true) hQ (by kernel_rfl) (by kernel_rfl) (by kernel_rfl) (by kernel_rfl) (by assumption) ?q167 ?q168
  case q167 => (intro o ho; obtain rfl := Option.some.inj ho; refine Or.inl ⟨by rfl, ?_⟩; intro w hSw; (try dsimp only at hSw); go_simp; (try simp [put_get, put_ne, put_size, hs]); (try with_reducible rfl); (try omega))
  case q168 =>
  refine step_take 3 130 (v := .pointer (some ⟨b, 6, none⟩)) hQ (by kernel_rfl) (by kernel_rfl) (by kernel_rfl) (by kernel_rfl) (by assumption) ?q169 ?q170
  case q169 => (intro o ho; obtain rfl := Option.some.inj ho; refine Or.inl ⟨by go_simp, ?_⟩; intro w hSw; (try dsimp only at hSw); go_simp; (try simp [put_get, put_ne, put_size, hs]); (try with_reducible rfl); (try omega))
  case q170 =>
  refine step_take 4 131 (v := .slice (some ad) n cap) hQ (by kernel_rfl) (by kernel_rfl) (by kernel_rfl) (by kernel_rfl) (by assumption) ?q171 ?q172
  case q171 => (intro o ho; obtain rfl := Option.some.inj ho; refine Or.inl ⟨by go_simp, ?_⟩; intro w hSw; (try dsimp only at hSw); go_simp; (try simp [put_get, put_ne, put_size, hs]); (try with_reducible rfl); (try omega))
  case q172 =>
  refine step_take 5 132 (v := .int .i64 i) hQ (by kernel_rfl) (by kernel_rfl) (by kernel_rfl) (by kernel_rfl) (by assumption) ?q173 ?q174
  case q173 => (intro o ho; obtain rfl := Option.some.inj ho; refine Or.inl ⟨by go_simp, ?_⟩; intro w hSw; (try dsimp only at hSw); go_simp; (try simp [put_get, put_ne, put_size, hs]); (try with_reducible rfl); (try omega))
  case q174 =>
  refine step_take 6 133 (v := .int .i64 ((i : Int) - 1)) hQ (by kernel_rfl) (by kernel_rfl) (by kernel_rfl) (by kernel_rfl) (by assumption) ?q175 ?q176
  case q175 => (intro o ho; obtain rfl := Option.some.inj ho; refine Or.inl ⟨by go_simp, ?_⟩; intro w hSw; (try dsimp only at hSw); go_simp; (try simp [put_get, put_ne, put_size, hs]); (try with_reducible rfl); (try omega))
  case q176 =>
  refine step_take 7 134 (v := .pointer (some (ad.add ((i - 1) * 2)))) hQ (by kernel_rfl) (by kernel_rfl) (by kernel_rfl) (by kernel_rfl) (by assumption) ?q177 ?q178
  case q177 => (intro o ho; obtain rfl := Option.some.inj ho; refine Or.inl ⟨by go_simp, ?_⟩; intro w hSw; (try dsimp only at hSw); go_simp; (try simp [put_get, put_ne, put_size, hs]); (try with_reducible rfl); (try omega))
  case q178 =>
  refine step_take 8 135 (v := .pointer (some (ad.add ((i - 1) * 2)))) hQ (by kernel_rfl) (by kernel_rfl) (by kernel_rfl) (by kernel_rfl) (by assumption) ?q179 ?q180
  case q179 => (intro o ho; obtain rfl := Option.some.inj ho; refine Or.inl ⟨by go_simp, ?_⟩; intro w hSw; (try dsimp only at hSw); go_simp; (try simp [put_get, put_ne, put_size, hs]); (try with_reducible rfl); (try omega))
  case q180 =>
  refine step_take 9 136 (v := .int .i64 x) hQ (by kernel_rfl) (by kernel_rfl) (by kernel_rfl) (by kernel_rfl) (by assumption) ?q181 ?q182
  case q181 => (intro o ho; obtain rfl := Option.some.inj ho; refine Or.inl ⟨by go_simp, ?_⟩; intro w hSw; (try dsimp only at hSw); go_simp; (try simp [put_get, put_ne, put_size, hs]); (try with_reducible rfl); (try omega))
  case q182 =>
  refine step_take 10 137 (v := .pointer (some ⟨c, 0, none⟩)) hQ (by kernel_rfl) (by kernel_rfl) (by kernel_rfl) (by kernel_rfl) (by assumption) ?q183 ?q184
  case q183 => (intro o ho; obtain rfl := Option.some.inj ho; refine Or.inl ⟨by go_simp, ?_⟩; intro w hSw; (try dsimp only at hSw); go_simp; (try simp [put_get, put_ne, put_size, hs]); (try with_reducible rfl); (try omega))
  case q184 =>
  refine step_take 11 138 (v := .int .i64 x) hQ (by kernel_rfl) (by kernel_rfl) (by kernel_rfl) (by kernel_rfl) (by assumption) ?q185 ?q186
  case q185 => (intro o ho; obtain rfl := Option.some.inj ho; refine Or.inl ⟨by go_simp, ?_⟩; intro w hSw; (try dsimp only at hSw); go_simp; (try simp [put_get, put_ne, put_size, hs]); (try with_reducible rfl); (try omega))
  case q186 =>
  refine step_take 12 139 (v := .bool false) hQ (by kernel_rfl) (by kernel_rfl) (by kernel_rfl) (by kernel_rfl) (by assumption) ?q187 ?q188
  case q187 => (intro o ho; obtain rfl := Option.some.inj ho; refine Or.inl ⟨by go_simp, ?_⟩; intro w hSw; (try dsimp only at hSw); go_simp; (try simp [put_get, put_ne, put_size, hs]); (try with_reducible rfl); (try omega))
  case q188 =>
  refine step_take 13 140 (v := .bool false) hQ (by kernel_rfl) (by kernel_rfl) (by kernel_rfl) (by kernel_rfl) (by assumption) ?q189 ?q190
  case q189 => (intro o ho; obtain rfl := Option.some.inj ho; refine Or.inl ⟨by go_simp, ?_⟩; intro w hSw; (try dsimp only at hSw); go_simp; (try simp [put_get, put_ne, put_size, hs]); (try with_reducible rfl); (try omega))
  case q190 =>
  refine step_take 14 141 (v := .pointer (some ⟨b, 6, none⟩)) hQ (by kernel_rfl) (by kernel_rfl) (by kernel_rfl) (by kernel_rfl) (by assumption) ?q191 ?q192
  case q191 => (intro o ho; obtain rfl := Option.some.inj ho; refine Or.inl ⟨by go_simp, ?_⟩; intro w hSw; (try dsimp only at hSw); go_simp; (try simp [put_get, put_ne, put_size, hs]); (try with_reducible rfl); (try omega))
  case q192 =>
  refine step_take 15 142 (v := .slice (some ad) n cap) hQ (by kernel_rfl) (by kernel_rfl) (by kernel_rfl) (by kernel_rfl) (by assumption) ?q193 ?q194
  case q193 => (intro o ho; obtain rfl := Option.some.inj ho; refine Or.inl ⟨by go_simp, ?_⟩; intro w hSw; (try dsimp only at hSw); go_simp; (try simp [put_get, put_ne, put_size, hs]); (try with_reducible rfl); (try omega))
  case q194 =>
  refine step_take 16 143 (v := .int .i64 i) hQ (by kernel_rfl) (by kernel_rfl) (by kernel_rfl) (by kernel_rfl) (by assumption) ?q195 ?q196
  case q195 => (intro o ho; obtain rfl := Option.some.inj ho; refine Or.inl ⟨by go_simp, ?_⟩; intro w hSw; (try dsimp only at hSw); go_simp; (try simp [put_get, put_ne, put_size, hs]); (try with_reducible rfl); (try omega))
  case q196 =>
  refine step_take 17 144 (v := .int .i64 ((i : Int) - 1)) hQ (by kernel_rfl) (by kernel_rfl) (by kernel_rfl) (by kernel_rfl) (by assumption) ?q197 ?q198
  case q197 => (intro o ho; obtain rfl := Option.some.inj ho; refine Or.inl ⟨by go_simp, ?_⟩; intro w hSw; (try dsimp only at hSw); go_simp; (try simp [put_get, put_ne, put_size, hs]); (try with_reducible rfl); (try omega))
  case q198 =>
  refine step_take 18 145 (v := .pointer (some (ad.add ((i - 1) * 2)))) hQ (by kernel_rfl) (by kernel_rfl) (by kernel_rfl) (by kernel_rfl) (by assumption) ?q199 ?q200
  case q199 => (intro o ho; obtain rfl := Option.some.inj ho; refine Or.inl ⟨by go_simp, ?_⟩; intro w hSw; (try dsimp only at hSw); go_simp; (try simp [put_get, put_ne, put_size, hs]); (try with_reducible rfl); (try omega))
  case q200 =>
  refine step_take 19 146 (v := .pointer (some (ad.add ((i - 1) * 2)))) hQ (by kernel_rfl) (by kernel_rfl) (by kernel_rfl) (by kernel_rfl) (by assumption) ?q201 ?q202
  case q201 => (intro o ho; obtain rfl := Option.some.inj ho; refine Or.inl ⟨by go_simp, ?_⟩; intro w hSw; (try dsimp only at hSw); go_simp; (try simp [put_get, put_ne, put_size, hs]); (try with_reducible rfl); (try omega))
  case q202 =>
  refine step_take 20 147 (v := .int .i64 x) hQ (by kernel_rfl) (by kernel_rfl) (by kernel_rfl) (by kernel_rfl) (by assumption) ?q203 ?q204
  case q203 => (intro o ho; obtain rfl := Option.some.inj ho; refine Or.inl ⟨by go_simp, ?_⟩; intro w hSw; (try dsimp only at hSw); go_simp; (try simp [put_get, put_ne, put_size, hs]); (try with_reducible rfl); (try omega))
  case q204 =>
  refine step_take 21 148 (v := .pointer (some ⟨c, 0, none⟩)) hQ (by kernel_rfl) (by kernel_rfl) (by kernel_rfl) (by kernel_rfl) (by assumption) ?q205 ?q206
  case q205 => (intro o ho; obtain rfl := Option.some.inj ho; refine Or.inl ⟨by go_simp, ?_⟩; intro w hSw; (try dsimp only at hSw); go_simp; (try simp [put_get, put_ne, put_size, hs]); (try with_reducible rfl); (try omega))
  case q206 =>
  refine step_take 22 149 (v := .int .i64 x) hQ (by kernel_rfl) (by kernel_rfl) (by kernel_rfl) (by kernel_rfl) (by assumption) ?q207 ?q208
  case q207 => (intro o ho; obtain rfl := Option.some.inj ho; refine Or.inl ⟨by go_simp, ?_⟩; intro w hSw; (try dsimp only at hSw); go_simp; (try simp [put_get, put_ne, put_size, hs]); (try with_reducible rfl); (try omega))
  case q208 =>
  refine step_take 23 150 (v := .bool true) hQ (by kernel_rfl) (by kernel_rfl) (by kernel_rfl) (by kernel_rfl) (by assumption) ?q209 ?q210
  case q209 => (intro o ho; obtain rfl := Option.some.inj ho; refine Or.inl ⟨by go_simp, ?_⟩; intro w hSw; (try dsimp only at hSw); go_simp; (try simp [put_get, put_ne, put_size, hs]); (try with_reducible rfl); (try omega))
  case q210 =>
  refine step_take 24 151 (v := .bool true) hQ (by kernel_rfl) (by kernel_rfl) (by kernel_rfl) (by kernel_rfl) (by assumption) ?q211 ?q212
  case q211 => (intro o ho; obtain rfl := Option.some.inj ho; refine Or.inl ⟨by go_simp, ?_⟩; intro w hSw; (try dsimp only at hSw); go_simp; (try simp [put_get, put_ne, put_size, hs]); (try with_reducible rfl); (try omega))
  case q212 =>
  refine step_take 25 152 (v := .pointer (some ⟨b, 6, none⟩)) hQ (by kernel_rfl) (by kernel_rfl) (by kernel_rfl) (by kernel_rfl) (by assumption) ?q213 ?q214
  case q213 => (intro o ho; obtain rfl := Option.some.inj ho; refine Or.inl ⟨by go_simp, ?_⟩; intro w hSw; (try dsimp only at hSw); go_simp; (try simp [put_get, put_ne, put_size, hs]); (try with_reducible rfl); (try omega))
  case q214 =>
  refine step_take 26 153 (v := .slice (some ad) n cap) hQ (by kernel_rfl) (by kernel_rfl) (by kernel_rfl) (by kernel_rfl) (by assumption) ?q215 ?q216
  case q215 => (intro o ho; obtain rfl := Option.some.inj ho; refine Or.inl ⟨by go_simp, ?_⟩; intro w hSw; (try dsimp only at hSw); go_simp; (try simp [put_get, put_ne, put_size, hs]); (try with_reducible rfl); (try omega))
  case q216 =>
  refine step_take 27 154 (v := .int .i64 i) hQ (by kernel_rfl) (by kernel_rfl) (by kernel_rfl) (by kernel_rfl) (by assumption) ?q217 ?q218
  case q217 => (intro o ho; obtain rfl := Option.some.inj ho; refine Or.inl ⟨by go_simp, ?_⟩; intro w hSw; (try dsimp only at hSw); go_simp; (try simp [put_get, put_ne, put_size, hs]); (try with_reducible rfl); (try omega))
  case q218 =>
  refine step_take 28 155 (v := .int .i64 ((i : Int) - 1)) hQ (by kernel_rfl) (by kernel_rfl) (by kernel_rfl) (by kernel_rfl) (by assumption) ?q219 ?q220
  case q219 => (intro o ho; obtain rfl := Option.some.inj ho; refine Or.inl ⟨by go_simp, ?_⟩; intro w hSw; (try dsimp only at hSw); go_simp; (try simp [put_get, put_ne, put_size, hs]); (try with_reducible rfl); (try omega))
  case q220 =>
  refine step_take 29 156 (v := .pointer (some (ad.add ((i - 1) * 2)))) hQ (by kernel_rfl) (by kernel_rfl) (by kernel_rfl) (by kernel_rfl) (by assumption) ?q221 ?q222
  case q221 => (intro o ho; obtain rfl := Option.some.inj ho; refine Or.inl ⟨by go_simp, ?_⟩; intro w hSw; (try dsimp only at hSw); go_simp; (try simp [put_get, put_ne, put_size, hs]); (try with_reducible rfl); (try omega))
  case q222 =>
  refine step_take 30 157 (v := .pointer (some ⟨(ad.add ((i - 1) * 2)).block, (ad.add ((i - 1) * 2)).off + 1, none⟩)) hQ (by kernel_rfl) (by kernel_rfl) (by kernel_rfl) (by kernel_rfl) (by assumption) ?q223 ?q224
  case q223 => (intro o ho; obtain rfl := Option.some.inj ho; refine Or.inl ⟨by go_simp, ?_⟩; intro w hSw; (try dsimp only at hSw); go_simp; (try simp [put_get, put_ne, put_size, hs]); (try with_reducible rfl); (try omega))
  case q224 =>
  refine step_take 31 158 (v := .int .i64 py) hQ (by kernel_rfl) (by kernel_rfl) (by kernel_rfl) (by kernel_rfl) (by assumption) ?q225 ?q226
  case q225 => (intro o ho; obtain rfl := Option.some.inj ho; refine Or.inl ⟨by go_simp, ?_⟩; intro w hSw; (try dsimp only at hSw); go_simp; (try simp [put_get, put_ne, put_size, hs]); (try with_reducible rfl); (try omega))
  case q226 =>
  refine step_take 32 159 (v := .pointer (some ⟨c, 1, none⟩)) hQ (by kernel_rfl) (by kernel_rfl) (by kernel_rfl) (by kernel_rfl) (by assumption) ?q227 ?q228
  case q227 => (intro o ho; obtain rfl := Option.some.inj ho; refine Or.inl ⟨by go_simp, ?_⟩; intro w hSw; (try dsimp only at hSw); go_simp; (try simp [put_get, put_ne, put_size, hs]); (try with_reducible rfl); (try omega))
  case q228 =>
  refine step_take 33 160 (v := .int .i64 y) hQ (by kernel_rfl) (by kernel_rfl) (by kernel_rfl) (by kernel_rfl) (by assumption) ?q229 ?q230
  case q229 => (intro o ho; obtain rfl := Option.some.inj ho; refine Or.inl ⟨by go_simp, ?_⟩; intro w hSw; (try dsimp only at hSw); go_simp; (try simp [put_get, put_ne, put_size, hs]); (try with_reducible rfl); (try omega))
  case q230 =>
  refine step_take 34 161 (v := .bool true) hQ (by kernel_rfl) (by kernel_rfl) (by kernel_rfl) (by kernel_rfl) (by assumption) ?q231 ?q232
  case q231 => (intro o ho; obtain rfl := Option.some.inj ho; refine Or.inl ⟨by go_simp, ?_⟩; intro w hSw; (try dsimp only at hSw); go_simp; (try simp [put_get, put_ne, put_size, hs]); (try with_reducible rfl); (try omega))
  case q232 =>
  refine step_take 35 162 (v := .bool true) hQ (by kernel_rfl) (by kernel_rfl) (by kernel_rfl) (by kernel_rfl) (by assumption) ?q233 ?q234
  case q233 => (intro o ho; obtain rfl := Option.some.inj ho; refine Or.inl ⟨by go_simp, ?_⟩; intro w hSw; (try dsimp only at hSw); go_simp; (try simp [put_get, put_ne, put_size, hs]); (try with_reducible rfl); (try omega))
  case q234 =>
  refine step_take 36 163 (v := .bool true) hQ (by kernel_rfl) (by kernel_rfl) (by kernel_rfl) (by kernel_rfl) (by assumption) ?q235 ?q236
  case q235 => (intro o ho; obtain rfl := Option.some.inj ho; refine Or.inl ⟨by go_simp, ?_⟩; intro w hSw; (try dsimp only at hSw); go_simp; (try simp [put_get, put_ne, put_size, hs]); (try with_reducible rfl); (try omega))
  case q236 =>
  refine step_take 37 164 (v := .bool true) hQ (by kernel_rfl) (by kernel_rfl) (by kernel_rfl) (by kernel_rfl) (by assumption) ?q237 ?q238
  case q237 => (intro o ho; obtain rfl := Option.some.inj ho; refine Or.inl ⟨by rfl, ?_⟩; intro w hSw; (try dsimp only at hSw); go_simp; (try simp [put_get, put_ne, put_size, hs]); (try with_reducible rfl); (try omega))
  case q238 =>
  refine step_take 38 8 (v := .bool true) hQ (by kernel_rfl) (by kernel_rfl) (by kernel_rfl) (by kernel_rfl) (by assumption) ?q239 ?q240
  case q239 => (intro o ho; obtain rfl := Option.some.inj ho; refine Or.inl ⟨by rfl, ?_⟩; intro w hSw; (try dsimp only at hSw); go_simp; (try simp [put_get, put_ne, put_size, hs]); (try with_reducible rfl); (try omega))
  case q240 =>
  refine wpAnyH_done (by kernel_rfl) ?_ _
  simp only [Act.put]
  refine hR _ ?_ (set_get (by simp [hs]))
  repeat (with_reducible refine Keep.set ?_ _ _ (by decide))
  with_reducible exact Keep.refl _ _ _ _

set_option maxRecDepth 100000 in
set_option maxHeartbeats 1000000 in
theorem reg23_sameNext (a : Act) (w : World) (Q : Exit → Act → World → Prop) (hQ : Blind Q) (ad : Addr) (b c n cap i : Nat) (x y : Int) (hs : a.tmps.size = 236) (h1 : a.tmps.getD 1 undef = .pointer (some ⟨b, 0, none⟩)) (h6 : a.tmps.getD 6 undef = .int .i64 i) (h9 : a.tmps.getD 9 undef = .pointer (some ⟨c, 0, none⟩))
    (hb6 : w.cell? ⟨b, 6, none⟩ = some (.slice (some ad) n cap)) (hx : w.cell? ⟨c, 0, none⟩ = some (.int .i64 x)) (hy : w.cell? ⟨c, 1, none⟩ = some (.int .i64 y)) (hi : i < n) (hn : n ≤ 64) (h0 : 0 < i) (py : Int) (hpx : w.cell? (ad.add ((i - 1) * 2)) = some (.int .i64 x)) (hpy : w.cell? ⟨(ad.add ((i - 1) * 2)).block, (ad.add ((i - 1) * 2)).off + 1, none⟩ = some (.int .i64 py)) (hr : py < y)
    (hR : ∀ t, Keep 127 164 8 a.tmps t → t.getD 8 undef = .bool false → Q .normal ⟨t, a.defers⟩ w.drew) :
    (Code.region 23 ops23 true).wp Tryd.prog Q a w := by
  have hr2 : ¬ y ≤ py := by omega
  have q2 : (0 : Int) ≤ (i : Int) - 1 := by omega
  have q3 : (1 : Int) ≤ (i : Int) := by omega
  have q4 : (i : Int) - 1 < (n : Int) := by omega
  have q5 : ((i : Int) - 1).toNat = i - 1 := by omega
  have q1 : IntKind.i64.wrap ((i : Int) - 1) = (i : Int) - 1 := IntWalk.i64_in _ (by omega)
  have g1 := getD_at h1
  have g6 := getD_at h6
  have g9 := getD_at h9
  conv => arg 2; arg 2; whnf
  refine wp_region_held_drew (S := (fun w' => w'.cell? ⟨b, 6, none⟩ = some (.slice (some ad) n cap) ∧ w'.cell? ⟨c, 0, none⟩ = some (.int .i64 x) ∧ w'.cell? ⟨c, 1, none⟩ = some (.int .i64 y) ∧ w'.cell? (ad.add ((i - 1) * 2)) = some (.int .i64 x) ∧ w'.cell? ⟨(ad.add ((i - 1) * 2)).block, (ad.add ((i - 1) * 2)).off + 1, none⟩ = some (.int .i64 py))) (by kernel_rfl) ?q241 (fun hHeld => ?q242)
  case q241 => (exact ⟨hb6, hx, hy, hpx, hpy⟩)
  case q242 =>
  refine step_take 0 127 (v := .int .i64 i) hQ (by kernel_rfl) (by kernel_rfl) (by kernel_rfl) (by kernel_rfl) (by assumption) ?q243 ?q244
  case q243 => (intro o ho; obtain rfl := Option.some.inj ho; refine Or.inl ⟨by rfl, ?_⟩; intro w hSw; (try dsimp only at hSw); go_simp; (try simp [put_get, put_ne, put_size, hs]); (try with_reducible rfl); (try omega))
  case q244 =>
  refine step_take 1 128 (v := .bool true) hQ (by kernel_rfl) (by kernel_rfl) (by kernel_rfl) (by kernel_rfl) (by assumption) ?q245 ?q246
  case q245 => (intro o ho; obtain rfl := Option.some.inj ho; refine Or.inl ⟨by rfl, ?_⟩; intro w hSw; (try dsimp only at hSw); go_simp; (try simp [put_get, put_ne, put_size, hs]); (try with_reducible rfl); (try omega))
  case q246 =>
  refine step_take 2 129 (v := .bool true) hQ (by kernel_rfl) (by kernel_rfl) (by kernel_rfl) (by kernel_rfl) (by assumption) ?q247 ?q248
  case q247 => (intro o ho; obtain rfl := Option.some.inj ho; refine Or.inl ⟨by rfl, ?_⟩; intro w hSw; (try dsimp only at hSw); go_simp; (try simp [put_get, put_ne, put_size, hs]); (try with_reducible rfl); (try omega))
  case q248 =>
  refine step_take 3 130 (v := .pointer (some ⟨b, 6, none⟩)) hQ (by kernel_rfl) (by kernel_rfl) (by kernel_rfl) (by kernel_rfl) (by assumption) ?q249 ?q250
  case q249 => (intro o ho; obtain rfl := Option.some.inj ho; refine Or.inl ⟨by go_simp, ?_⟩; intro w hSw; (try dsimp only at hSw); go_simp; (try simp [put_get, put_ne, put_size, hs]); (try with_reducible rfl); (try omega))
  case q250 =>
  refine step_take 4 131 (v := .slice (some ad) n cap) hQ (by kernel_rfl) (by kernel_rfl) (by kernel_rfl) (by kernel_rfl) (by assumption) ?q251 ?q252
  case q251 => (intro o ho; obtain rfl := Option.some.inj ho; refine Or.inl ⟨by go_simp, ?_⟩; intro w hSw; (try dsimp only at hSw); go_simp; (try simp [put_get, put_ne, put_size, hs]); (try with_reducible rfl); (try omega))
  case q252 =>
  refine step_take 5 132 (v := .int .i64 i) hQ (by kernel_rfl) (by kernel_rfl) (by kernel_rfl) (by kernel_rfl) (by assumption) ?q253 ?q254
  case q253 => (intro o ho; obtain rfl := Option.some.inj ho; refine Or.inl ⟨by go_simp, ?_⟩; intro w hSw; (try dsimp only at hSw); go_simp; (try simp [put_get, put_ne, put_size, hs]); (try with_reducible rfl); (try omega))
  case q254 =>
  refine step_take 6 133 (v := .int .i64 ((i : Int) - 1)) hQ (by kernel_rfl) (by kernel_rfl) (by kernel_rfl) (by kernel_rfl) (by assumption) ?q255 ?q256
  case q255 => (intro o ho; obtain rfl := Option.some.inj ho; refine Or.inl ⟨by go_simp, ?_⟩; intro w hSw; (try dsimp only at hSw); go_simp; (try simp [put_get, put_ne, put_size, hs]); (try with_reducible rfl); (try omega))
  case q256 =>
  refine step_take 7 134 (v := .pointer (some (ad.add ((i - 1) * 2)))) hQ (by kernel_rfl) (by kernel_rfl) (by kernel_rfl) (by kernel_rfl) (by assumption) ?q257 ?q258
  case q257 => (intro o ho; obtain rfl := Option.some.inj ho; refine Or.inl ⟨by go_simp, ?_⟩; intro w hSw; (try dsimp only at hSw); go_simp; (try simp [put_get, put_ne, put_size, hs]); (try with_reducible rfl); (try omega))
  case q258 =>
  refine step_take 8 135 (v := .pointer (some (ad.add ((i - 1) * 2)))) hQ (by kernel_rfl) (by kernel_rfl) (by kernel_rfl) (by kernel_rfl) (by assumption) ?q259 ?q260
  case q259 => (intro o ho; obtain rfl := Option.some.inj ho; refine Or.inl ⟨by go_simp, ?_⟩; intro w hSw; (try dsimp only at hSw); go_simp; (try simp [put_get, put_ne, put_size, hs]); (try with_reducible rfl); (try omega))
  case q260 =>
  refine step_take 9 136 (v := .int .i64 x) hQ (by kernel_rfl) (by kernel_rfl) (by kernel_rfl) (by kernel_rfl) (by assumption) ?q261 ?q262
  case q261 => (intro o ho; obtain rfl := Option.some.inj ho; refine Or.inl ⟨by go_simp, ?_⟩; intro w hSw; (try dsimp only at hSw); go_simp; (try simp [put_get, put_ne, put_size, hs]); (try with_reducible rfl); (try omega))
  case q262 =>
  refine step_take 10 137 (v := .pointer (some ⟨c, 0, none⟩)) hQ (by kernel_rfl) (by kernel_rfl) (by kernel_rfl) (by kernel_rfl) (by assumption) ?q263 ?q264
  case q263 => (intro o ho; obtain rfl := Option.some.inj ho; refine Or.inl ⟨by go_simp, ?_⟩; intro w hSw; (try dsimp only at hSw); go_simp; (try simp [put_get, put_ne, put_size, hs]); (try with_reducible rfl); (try omega))
  case q264 =>
  refine step_take 11 138 (v := .int .i64 x) hQ (by kernel_rfl) (by kernel_rfl) (by kernel_rfl) (by kernel_rfl) (by assumption) ?q265 ?q266
  case q265 => (intro o ho; obtain rfl := Option.some.inj ho; refine Or.inl ⟨by go_simp, ?_⟩; intro w hSw; (try dsimp only at hSw); go_simp; (try simp [put_get, put_ne, put_size, hs]); (try with_reducible rfl); (try omega))
  case q266 =>
  refine step_take 12 139 (v := .bool false) hQ (by kernel_rfl) (by kernel_rfl) (by kernel_rfl) (by kernel_rfl) (by assumption) ?q267 ?q268
  case q267 => (intro o ho; obtain rfl := Option.some.inj ho; refine Or.inl ⟨by go_simp, ?_⟩; intro w hSw; (try dsimp only at hSw); go_simp; (try simp [put_get, put_ne, put_size, hs]); (try with_reducible rfl); (try omega))
  case q268 =>
  refine step_take 13 140 (v := .bool false) hQ (by kernel_rfl) (by kernel_rfl) (by kernel_rfl) (by kernel_rfl) (by assumption) ?q269 ?q270
  case q269 => (intro o ho; obtain rfl := Option.some.inj ho; refine Or.inl ⟨by go_simp, ?_⟩; intro w hSw; (try dsimp only at hSw); go_simp; (try simp [put_get, put_ne, put_size, hs]); (try with_reducible rfl); (try omega))
  case q270 =>
  refine step_take 14 141 (v := .pointer (some ⟨b, 6, none⟩)) hQ (by kernel_rfl) (by kernel_rfl) (by kernel_rfl) (by kernel_rfl) (by assumption) ?q271 ?q272
  case q271 => (intro o ho; obtain rfl := Option.some.inj ho; refine Or.inl ⟨by go_simp, ?_⟩; intro w hSw; (try dsimp only at hSw); go_simp; (try simp [put_get, put_ne, put_size, hs]); (try with_reducible rfl); (try omega))
  case q272 =>
  refine step_take 15 142 (v := .slice (some ad) n cap) hQ (by kernel_rfl) (by kernel_rfl) (by kernel_rfl) (by kernel_rfl) (by assumption) ?q273 ?q274
  case q273 => (intro o ho; obtain rfl := Option.some.inj ho; refine Or.inl ⟨by go_simp, ?_⟩; intro w hSw; (try dsimp only at hSw); go_simp; (try simp [put_get, put_ne, put_size, hs]); (try with_reducible rfl); (try omega))
  case q274 =>
  refine step_take 16 143 (v := .int .i64 i) hQ (by kernel_rfl) (by kernel_rfl) (by kernel_rfl) (by kernel_rfl) (by assumption) ?q275 ?q276
  case q275 => (intro o ho; obtain rfl := Option.some.inj ho; refine Or.inl ⟨by go_simp, ?_⟩; intro w hSw; (try dsimp only at hSw); go_simp; (try simp [put_get, put_ne, put_size, hs]); (try with_reducible rfl); (try omega))
  case q276 =>
  refine step_take 17 144 (v := .int .i64 ((i : Int) - 1)) hQ (by kernel_rfl) (by kernel_rfl) (by kernel_rfl) (by kernel_rfl) (by assumption) ?q277 ?q278
  case q277 => (intro o ho; obtain rfl := Option.some.inj ho; refine Or.inl ⟨by go_simp, ?_⟩; intro w hSw; (try dsimp only at hSw); go_simp; (try simp [put_get, put_ne, put_size, hs]); (try with_reducible rfl); (try omega))
  case q278 =>
  refine step_take 18 145 (v := .pointer (some (ad.add ((i - 1) * 2)))) hQ (by kernel_rfl) (by kernel_rfl) (by kernel_rfl) (by kernel_rfl) (by assumption) ?q279 ?q280
  case q279 => (intro o ho; obtain rfl := Option.some.inj ho; refine Or.inl ⟨by go_simp, ?_⟩; intro w hSw; (try dsimp only at hSw); go_simp; (try simp [put_get, put_ne, put_size, hs]); (try with_reducible rfl); (try omega))
  case q280 =>
  refine step_take 19 146 (v := .pointer (some (ad.add ((i - 1) * 2)))) hQ (by kernel_rfl) (by kernel_rfl) (by kernel_rfl) (by kernel_rfl) (by assumption) ?q281 ?q282
  case q281 => (intro o ho; obtain rfl := Option.some.inj ho; refine Or.inl ⟨by go_simp, ?_⟩; intro w hSw; (try dsimp only at hSw); go_simp; (try simp [put_get, put_ne, put_size, hs]); (try with_reducible rfl); (try omega))
  case q282 =>
  refine step_take 20 147 (v := .int .i64 x) hQ (by kernel_rfl) (by kernel_rfl) (by kernel_rfl) (by kernel_rfl) (by assumption) ?q283 ?q284
  case q283 => (intro o ho; obtain rfl := Option.some.inj ho; refine Or.inl ⟨by go_simp, ?_⟩; intro w hSw; (try dsimp only at hSw); go_simp; (try simp [put_get, put_ne, put_size, hs]); (try with_reducible rfl); (try omega))
  case q284 =>
  refine step_take 21 148 (v := .pointer (some ⟨c, 0, none⟩)) hQ (by kernel_rfl) (by kernel_rfl) (by kernel_rfl) (by kernel_rfl) (by assumption) ?q285 ?q286
  case q285 => (intro o ho; obtain rfl := Option.some.inj ho; refine Or.inl ⟨by go_simp, ?_⟩; intro w hSw; (try dsimp only at hSw); go_simp; (try simp [put_get, put_ne, put_size, hs]); (try with_reducible rfl); (try omega))
  case q286 =>
  refine step_take 22 149 (v := .int .i64 x) hQ (by kernel_rfl) (by kernel_rfl) (by kernel_rfl) (by kernel_rfl) (by assumption) ?q287 ?q288
  case q287 => (intro o ho; obtain rfl := Option.some.inj ho; refine Or.inl ⟨by go_simp, ?_⟩; intro w hSw; (try dsimp only at hSw); go_simp; (try simp [put_get, put_ne, put_size, hs]); (try with_reducible rfl); (try omega))
  case q288 =>
  refine step_take 23 150 (v := .bool true) hQ (by kernel_rfl) (by kernel_rfl) (by kernel_rfl) (by kernel_rfl) (by assumption) ?q289 ?q290
  case q289 => (intro o ho; obtain rfl := Option.some.inj ho; refine Or.inl ⟨by go_simp, ?_⟩; intro w hSw; (try dsimp only at hSw); go_simp; (try simp [put_get, put_ne, put_size, hs]); (try with_reducible rfl); (try omega))
  case q290 =>
  refine step_take 24 151 (v := .bool true) hQ (by kernel_rfl) (by kernel_rfl) (by kernel_rfl) (by kernel_rfl) (by assumption) ?q291 ?q292
  case q291 => (intro o ho; obtain rfl := Option.some.inj ho; refine Or.inl ⟨by go_simp, ?_⟩; intro w hSw; (try dsimp only at hSw); go_simp; (try simp [put_get, put_ne, put_size, hs]); (try with_reducible rfl); (try omega))
  case q292 =>
  refine step_take 25 152 (v := .pointer (some ⟨b, 6, none⟩)) hQ (by kernel_rfl) (by kernel_rfl) (by kernel_rfl) (by kernel_rfl) (by assumption) ?q293 ?q294
  case q293 => (intro o ho; obtain rfl := Option.some.inj ho; refine Or.inl ⟨by go_simp, ?_⟩; intro w hSw; (try dsimp only at hSw); go_simp; (try simp [put_get, put_ne, put_size, hs]); (try with_reducible rfl); (try omega))
  case q294 =>
  refine step_take 26 153 (v := .slice (some ad) n cap) hQ (by kernel_rfl) (by kernel_rfl) (by kernel_rfl) (by kernel_rfl) (by assumption) ?q295 ?q296
  case q295 => (intro o ho; obtain rfl := Option.some.inj ho; refine Or.inl ⟨by go_simp, ?_⟩; intro w hSw; (try dsimp only at hSw); go_simp; (try simp [put_get, put_ne, put_size, hs]); (try with_reducible rfl); (try omega))
  case q296 =>
  refine step_take 27 154 (v := .int .i64 i) hQ (by kernel_rfl) (by kernel_rfl) (by kernel_rfl) (by kernel_rfl) (by assumption) ?q297 ?q298
  case q297 => (intro o ho; obtain rfl := Option.some.inj ho; refine Or.inl ⟨by go_simp, ?_⟩; intro w hSw; (try dsimp only at hSw); go_simp; (try simp [put_get, put_ne, put_size, hs]); (try with_reducible rfl); (try omega))
  case q298 =>
  refine step_take 28 155 (v := .int .i64 ((i : Int) - 1)) hQ (by kernel_rfl) (by kernel_rfl) (by kernel_rfl) (by kernel_rfl) (by assumption) ?q299 ?q300
  case q299 => (intro o ho; obtain rfl := Option.some.inj ho; refine Or.inl ⟨by go_simp, ?_⟩; intro w hSw; (try dsimp only at hSw); go_simp; (try simp [put_get, put_ne, put_size, hs]); (try with_reducible rfl); (try omega))
  case q300 =>
  refine step_take 29 156 (v := .pointer (some (ad.add ((i - 1) * 2)))) hQ (by kernel_rfl) (by kernel_rfl) (by kernel_rfl) (by kernel_rfl) (by assumption) ?q301 ?q302
  case q301 => (intro o ho; obtain rfl := Option.some.inj ho; refine Or.inl ⟨by go_simp, ?_⟩; intro w hSw; (try dsimp only at hSw); go_simp; (try simp [put_get, put_ne, put_size, hs]); (try with_reducible rfl); (try omega))
  case q302 =>
  refine step_take 30 157 (v := .pointer (some ⟨(ad.add ((i - 1) * 2)).block, (ad.add ((i - 1) * 2)).off + 1, none⟩)) hQ (by kernel_rfl) (by kernel_rfl) (by kernel_rfl) (by kernel_rfl) (by assumption) ?q303 ?q304
  case q303 => (intro o ho; obtain rfl := Option.some.inj ho; refine Or.inl ⟨by go_simp, ?_⟩; intro w hSw; (try dsimp only at hSw); go_simp; (try simp [put_get, put_ne, put_size, hs]); (try with_reducible rfl); (try omega))
  case q304 =>
  refine step_take 31 158 (v := .int .i64 py) hQ (by kernel_rfl) (by kernel_rfl) (by kernel_rfl) (by kernel_rfl) (by assumption) ?q305 ?q306
  case q305 => (intro o ho; obtain rfl := Option.some.inj ho; refine Or.inl ⟨by go_simp, ?_⟩; intro w hSw; (try dsimp only at hSw); go_simp; (try simp [put_get, put_ne, put_size, hs]); (try with_reducible rfl); (try omega))
  case q306 =>
  refine step_take 32 159 (v := .pointer (some ⟨c, 1, none⟩)) hQ (by kernel_rfl) (by kernel_rfl) (by kernel_rfl) (by kernel_rfl) (by assumption) ?q307 ?q308
  case q307 => (intro o ho; obtain rfl := Option.some.inj ho; refine Or.inl ⟨by go_simp, ?_⟩; intro w hSw; (try dsimp only at hSw); go_simp; (try simp [put_get, put_ne, put_size, hs]); (try with_reducible rfl); (try omega))
  case q308 =>
  refine step_take 33 160 (v := .int .i64 y) hQ (by kernel_rfl) (by kernel_rfl) (by kernel_rfl) (by kernel_rfl) (by assumption) ?q309 ?q310
  case q309 => (intro o ho; obtain rfl := Option.some.inj ho; refine Or.inl ⟨by go_simp, ?_⟩; intro w hSw; (try dsimp only at hSw); go_simp; (try simp [put_get, put_ne, put_size, hs]); (try with_reducible rfl); (try omega))
  case q310 =>
  refine step_take 34 161 (v := .bool false) hQ (by kernel_rfl) (by kernel_rfl) (by kernel_rfl) (by kernel_rfl) (by assumption) ?q311 ?q312
  case q311 => (intro o ho; obtain rfl := Option.some.inj ho; refine Or.inl ⟨by go_simp, ?_⟩; intro w hSw; (try dsimp only at hSw); go_simp; (try simp [put_get, put_ne, put_size, hs]); (try with_reducible rfl); (try omega))
  case q312 =>
  refine step_take 35 162 (v := .bool false) hQ (by kernel_rfl) (by kernel_rfl) (by kernel_rfl) (by kernel_rfl) (by assumption) ?q313 ?q314
  case q313 => (intro o ho; obtain rfl := Option.some.inj ho; refine Or.inl ⟨by go_simp, ?_⟩; intro w hSw; (try dsimp only at hSw); go_simp; (try simp [put_get, put_ne, put_size, hs]); (try with_reducible rfl); (try omega))
  case q314 =>
  refine step_take 36 163 (v := .bool false) hQ (by kernel_rfl) (by kernel_rfl) (by kernel_rfl) (by kernel_rfl) (by assumption) ?q315 ?q316
  case q315 => (intro o ho; obtain rfl := Option.some.inj ho; refine Or.inl ⟨by go_simp, ?_⟩; intro w hSw; (try dsimp only at hSw); go_simp; (try simp [put_get, put_ne, put_size, hs]); (try with_reducible rfl); (try omega))
  case q316 =>
  refine step_take 37 164 (v := .bool false) hQ (by kernel_rfl) (by kernel_rfl) (by kernel_rfl) (by kernel_rfl) (by assumption) ?q317 ?q318
  case q317 => (intro o ho; obtain rfl := Option.some.inj ho; refine Or.inl ⟨by rfl, ?_⟩; intro w hSw; (try dsimp only at hSw); go_simp; (try simp [put_get, put_ne, put_size, hs]); (try with_reducible rfl); (try omega))
  case q318 =>
  refine step_take 38 8 (v := .bool false) hQ (by kernel_rfl) (by kernel_rfl) (by kernel_rfl) (by kernel_rfl) (by assumption) ?q319 ?q320
  case q319 => (intro o ho; obtain rfl := Option.some.inj ho; refine Or.inl ⟨by rfl, ?_⟩; intro w hSw; (try dsimp only at hSw); go_simp; (try simp [put_get, put_ne, put_size, hs]); (try with_reducible rfl); (try omega))
  case q320 =>
  refine wpAnyH_done (by kernel_rfl) ?_ _
  simp only [Act.put]
  refine hR _ ?_ (set_get (by simp [hs]))
  repeat (with_reducible refine Keep.set ?_ _ _ (by decide))
  with_reducible exact Keep.refl _ _ _ _

set_option maxRecDepth 100000 in
set_option maxHeartbeats 1000000 in
theorem reg23_less (a : Act) (w : World) (Q : Exit → Act → World → Prop) (hQ : Blind Q) (ad : Addr) (b c n cap i : Nat) (x y : Int) (hs : a.tmps.size = 236) (h1 : a.tmps.getD 1 undef = .pointer (some ⟨b, 0, none⟩)) (h6 : a.tmps.getD 6 undef = .int .i64 i) (h9 : a.tmps.getD 9 undef = .pointer (some ⟨c, 0, none⟩))
    (hb6 : w.cell? ⟨b, 6, none⟩ = some (.slice (some ad) n cap)) (hx : w.cell? ⟨c, 0, none⟩ = some (.int .i64 x)) (hy : w.cell? ⟨c, 1, none⟩ = some (.int .i64 y)) (hi : i < n) (hn : n ≤ 64) (h0 : 0 < i) (px py : Int) (hpx : w.cell? (ad.add ((i - 1) * 2)) = some (.int .i64 px)) (hpy : w.cell? ⟨(ad.add ((i - 1) * 2)).block, (ad.add ((i - 1) * 2)).off + 1, none⟩ = some (.int .i64 py)) (hq : px < x)
    (hR : ∀ t, Keep 127 164 8 a.tmps t → t.getD 8 undef = .bool false → Q .normal ⟨t, a.defers⟩ w.drew) :
    (Code.region 23 ops23 true).wp Tryd.prog Q a w := by
  have hq2 : ¬ x < px := by omega
  have hq3 : (px == x) = false := by simp; omega
  have q2 : (0 : Int) ≤ (i : Int) - 1 := by omega
  have q3 : (1 : Int) ≤ (i : Int) := by omega
  have q4 : (i : Int) - 1 < (n : Int) := by omega
  have q5 : ((i : Int) - 1).toNat = i - 1 := by omega
  have q1 : IntKind.i64.wrap ((i : Int) - 1) = (i : Int) - 1 := IntWalk.i64_in _ (by omega)
  have g1 := getD_at h1
  have g6 := getD_at h6
  have g9 := getD_at h9
  conv => arg 2; arg 2; whnf
  refine wp_region_held_drew (S := (fun w' => w'.cell? ⟨b, 6, none⟩ = some (.slice (some ad) n cap) ∧ w'.cell? ⟨c, 0, none⟩ = some (.int .i64 x) ∧ w'.cell? ⟨c, 1, none⟩ = some (.int .i64 y) ∧ w'.cell? (ad.add ((i - 1) * 2)) = some (.int .i64 px) ∧ w'.cell? ⟨(ad.add ((i - 1) * 2)).block, (ad.add ((i - 1) * 2)).off + 1, none⟩ = some (.int .i64 py))) (by kernel_rfl) ?q321 (fun hHeld => ?q322)
  case q321 => (exact ⟨hb6, hx, hy, hpx, hpy⟩)
  case q322 =>
  refine step_take 0 127 (v := .int .i64 i) hQ (by kernel_rfl) (by kernel_rfl) (by kernel_rfl) (by kernel_rfl) (by assumption) ?q323 ?q324
  case q323 => (intro o ho; obtain rfl := Option.some.inj ho; refine Or.inl ⟨by rfl, ?_⟩; intro w hSw; (try dsimp only at hSw); go_simp; (try simp [put_get, put_ne, put_size, hs]); (try with_reducible rfl); (try omega))
  case q324 =>
  refine step_take 1 128 (v := .bool true) hQ (by kernel_rfl) (by kernel_rfl) (by kernel_rfl) (by kernel_rfl) (by assumption) ?q325 ?q326
  case q325 => (intro o ho; obtain rfl := Option.some.inj ho; refine Or.inl ⟨by rfl, ?_⟩; intro w hSw; (try dsimp only at hSw); go_simp; (try simp [put_get, put_ne, put_size, hs]); (try with_reducible rfl); (try omega))
  case q326 =>
  refine step_take 2 129 (v := .bool true) hQ (by kernel_rfl) (by kernel_rfl) (by kernel_rfl) (by kernel_rfl) (by assumption) ?q327 ?q328
  case q327 => (intro o ho; obtain rfl := Option.some.inj ho; refine Or.inl ⟨by rfl, ?_⟩; intro w hSw; (try dsimp only at hSw); go_simp; (try simp [put_get, put_ne, put_size, hs]); (try with_reducible rfl); (try omega))
  case q328 =>
  refine step_take 3 130 (v := .pointer (some ⟨b, 6, none⟩)) hQ (by kernel_rfl) (by kernel_rfl) (by kernel_rfl) (by kernel_rfl) (by assumption) ?q329 ?q330
  case q329 => (intro o ho; obtain rfl := Option.some.inj ho; refine Or.inl ⟨by go_simp, ?_⟩; intro w hSw; (try dsimp only at hSw); go_simp; (try simp [put_get, put_ne, put_size, hs]); (try with_reducible rfl); (try omega))
  case q330 =>
  refine step_take 4 131 (v := .slice (some ad) n cap) hQ (by kernel_rfl) (by kernel_rfl) (by kernel_rfl) (by kernel_rfl) (by assumption) ?q331 ?q332
  case q331 => (intro o ho; obtain rfl := Option.some.inj ho; refine Or.inl ⟨by go_simp, ?_⟩; intro w hSw; (try dsimp only at hSw); go_simp; (try simp [put_get, put_ne, put_size, hs]); (try with_reducible rfl); (try omega))
  case q332 =>
  refine step_take 5 132 (v := .int .i64 i) hQ (by kernel_rfl) (by kernel_rfl) (by kernel_rfl) (by kernel_rfl) (by assumption) ?q333 ?q334
  case q333 => (intro o ho; obtain rfl := Option.some.inj ho; refine Or.inl ⟨by go_simp, ?_⟩; intro w hSw; (try dsimp only at hSw); go_simp; (try simp [put_get, put_ne, put_size, hs]); (try with_reducible rfl); (try omega))
  case q334 =>
  refine step_take 6 133 (v := .int .i64 ((i : Int) - 1)) hQ (by kernel_rfl) (by kernel_rfl) (by kernel_rfl) (by kernel_rfl) (by assumption) ?q335 ?q336
  case q335 => (intro o ho; obtain rfl := Option.some.inj ho; refine Or.inl ⟨by go_simp, ?_⟩; intro w hSw; (try dsimp only at hSw); go_simp; (try simp [put_get, put_ne, put_size, hs]); (try with_reducible rfl); (try omega))
  case q336 =>
  refine step_take 7 134 (v := .pointer (some (ad.add ((i - 1) * 2)))) hQ (by kernel_rfl) (by kernel_rfl) (by kernel_rfl) (by kernel_rfl) (by assumption) ?q337 ?q338
  case q337 => (intro o ho; obtain rfl := Option.some.inj ho; refine Or.inl ⟨by go_simp, ?_⟩; intro w hSw; (try dsimp only at hSw); go_simp; (try simp [put_get, put_ne, put_size, hs]); (try with_reducible rfl); (try omega))
  case q338 =>
  refine step_take 8 135 (v := .pointer (some (ad.add ((i - 1) * 2)))) hQ (by kernel_rfl) (by kernel_rfl) (by kernel_rfl) (by kernel_rfl) (by assumption) ?q339 ?q340
  case q339 => (intro o ho; obtain rfl := Option.some.inj ho; refine Or.inl ⟨by go_simp, ?_⟩; intro w hSw; (try dsimp only at hSw); go_simp; (try simp [put_get, put_ne, put_size, hs]); (try with_reducible rfl); (try omega))
  case q340 =>
  refine step_take 9 136 (v := .int .i64 px) hQ (by kernel_rfl) (by kernel_rfl) (by kernel_rfl) (by kernel_rfl) (by assumption) ?q341 ?q342
  case q341 => (intro o ho; obtain rfl := Option.some.inj ho; refine Or.inl ⟨by go_simp, ?_⟩; intro w hSw; (try dsimp only at hSw); go_simp; (try simp [put_get, put_ne, put_size, hs]); (try with_reducible rfl); (try omega))
  case q342 =>
  refine step_take 10 137 (v := .pointer (some ⟨c, 0, none⟩)) hQ (by kernel_rfl) (by kernel_rfl) (by kernel_rfl) (by kernel_rfl) (by assumption) ?q343 ?q344
  case q343 => (intro o ho; obtain rfl := Option.some.inj ho; refine Or.inl ⟨by go_simp, ?_⟩; intro w hSw; (try dsimp only at hSw); go_simp; (try simp [put_get, put_ne, put_size, hs]); (try with_reducible rfl); (try omega))
  case q344 =>
  refine step_take 11 138 (v := .int .i64 x) hQ (by kernel_rfl) (by kernel_rfl) (by kernel_rfl) (by kernel_rfl) (by assumption) ?q345 ?q346
  case q345 => (intro o ho; obtain rfl := Option.some.inj ho; refine Or.inl ⟨by go_simp, ?_⟩; intro w hSw; (try dsimp only at hSw); go_simp; (try simp [put_get, put_ne, put_size, hs]); (try with_reducible rfl); (try omega))
  case q346 =>
  refine step_take 12 139 (v := .bool false) hQ (by kernel_rfl) (by kernel_rfl) (by kernel_rfl) (by kernel_rfl) (by assumption) ?q347 ?q348
  case q347 => (intro o ho; obtain rfl := Option.some.inj ho; refine Or.inl ⟨by go_simp, ?_⟩; intro w hSw; (try dsimp only at hSw); go_simp; (try simp [put_get, put_ne, put_size, hs]); (try with_reducible rfl); (try omega))
  case q348 =>
  refine step_take 13 140 (v := .bool false) hQ (by kernel_rfl) (by kernel_rfl) (by kernel_rfl) (by kernel_rfl) (by assumption) ?q349 ?q350
  case q349 => (intro o ho; obtain rfl := Option.some.inj ho; refine Or.inl ⟨by go_simp, ?_⟩; intro w hSw; (try dsimp only at hSw); go_simp; (try simp [put_get, put_ne, put_size, hs]); (try with_reducible rfl); (try omega))
  case q350 =>
  refine step_take 14 141 (v := .pointer (some ⟨b, 6, none⟩)) hQ (by kernel_rfl) (by kernel_rfl) (by kernel_rfl) (by kernel_rfl) (by assumption) ?q351 ?q352
  case q351 => (intro o ho; obtain rfl := Option.some.inj ho; refine Or.inl ⟨by go_simp, ?_⟩; intro w hSw; (try dsimp only at hSw); go_simp; (try simp [put_get, put_ne, put_size, hs]); (try with_reducible rfl); (try omega))
  case q352 =>
  refine step_take 15 142 (v := .slice (some ad) n cap) hQ (by kernel_rfl) (by kernel_rfl) (by kernel_rfl) (by kernel_rfl) (by assumption) ?q353 ?q354
  case q353 => (intro o ho; obtain rfl := Option.some.inj ho; refine Or.inl ⟨by go_simp, ?_⟩; intro w hSw; (try dsimp only at hSw); go_simp; (try simp [put_get, put_ne, put_size, hs]); (try with_reducible rfl); (try omega))
  case q354 =>
  refine step_take 16 143 (v := .int .i64 i) hQ (by kernel_rfl) (by kernel_rfl) (by kernel_rfl) (by kernel_rfl) (by assumption) ?q355 ?q356
  case q355 => (intro o ho; obtain rfl := Option.some.inj ho; refine Or.inl ⟨by go_simp, ?_⟩; intro w hSw; (try dsimp only at hSw); go_simp; (try simp [put_get, put_ne, put_size, hs]); (try with_reducible rfl); (try omega))
  case q356 =>
  refine step_take 17 144 (v := .int .i64 ((i : Int) - 1)) hQ (by kernel_rfl) (by kernel_rfl) (by kernel_rfl) (by kernel_rfl) (by assumption) ?q357 ?q358
  case q357 => (intro o ho; obtain rfl := Option.some.inj ho; refine Or.inl ⟨by go_simp, ?_⟩; intro w hSw; (try dsimp only at hSw); go_simp; (try simp [put_get, put_ne, put_size, hs]); (try with_reducible rfl); (try omega))
  case q358 =>
  refine step_take 18 145 (v := .pointer (some (ad.add ((i - 1) * 2)))) hQ (by kernel_rfl) (by kernel_rfl) (by kernel_rfl) (by kernel_rfl) (by assumption) ?q359 ?q360
  case q359 => (intro o ho; obtain rfl := Option.some.inj ho; refine Or.inl ⟨by go_simp, ?_⟩; intro w hSw; (try dsimp only at hSw); go_simp; (try simp [put_get, put_ne, put_size, hs]); (try with_reducible rfl); (try omega))
  case q360 =>
  refine step_take 19 146 (v := .pointer (some (ad.add ((i - 1) * 2)))) hQ (by kernel_rfl) (by kernel_rfl) (by kernel_rfl) (by kernel_rfl) (by assumption) ?q361 ?q362
  case q361 => (intro o ho; obtain rfl := Option.some.inj ho; refine Or.inl ⟨by go_simp, ?_⟩; intro w hSw; (try dsimp only at hSw); go_simp; (try simp [put_get, put_ne, put_size, hs]); (try with_reducible rfl); (try omega))
  case q362 =>
  refine step_take 20 147 (v := .int .i64 px) hQ (by kernel_rfl) (by kernel_rfl) (by kernel_rfl) (by kernel_rfl) (by assumption) ?q363 ?q364
  case q363 => (intro o ho; obtain rfl := Option.some.inj ho; refine Or.inl ⟨by go_simp, ?_⟩; intro w hSw; (try dsimp only at hSw); go_simp; (try simp [put_get, put_ne, put_size, hs]); (try with_reducible rfl); (try omega))
  case q364 =>
  refine step_take 21 148 (v := .pointer (some ⟨c, 0, none⟩)) hQ (by kernel_rfl) (by kernel_rfl) (by kernel_rfl) (by kernel_rfl) (by assumption) ?q365 ?q366
  case q365 => (intro o ho; obtain rfl := Option.some.inj ho; refine Or.inl ⟨by go_simp, ?_⟩; intro w hSw; (try dsimp only at hSw); go_simp; (try simp [put_get, put_ne, put_size, hs]); (try with_reducible rfl); (try omega))
  case q366 =>
  refine step_take 22 149 (v := .int .i64 x) hQ (by kernel_rfl) (by kernel_rfl) (by kernel_rfl) (by kernel_rfl) (by assumption) ?q367 ?q368
  case q367 => (intro o ho; obtain rfl := Option.some.inj ho; refine Or.inl ⟨by go_simp, ?_⟩; intro w hSw; (try dsimp only at hSw); go_simp; (try simp [put_get, put_ne, put_size, hs]); (try with_reducible rfl); (try omega))
  case q368 =>
  refine step_take 23 150 (v := .bool false) hQ (by kernel_rfl) (by kernel_rfl) (by kernel_rfl) (by kernel_rfl) (by assumption) ?q369 ?q370
  case q369 => (intro o ho; obtain rfl := Option.some.inj ho; refine Or.inl ⟨by go_simp, ?_⟩; intro w hSw; (try dsimp only at hSw); go_simp; (try simp [put_get, put_ne, put_size, hs]); (try with_reducible rfl); (try omega))
  case q370 =>
  refine step_take 24 151 (v := .bool false) hQ (by kernel_rfl) (by kernel_rfl) (by kernel_rfl) (by kernel_rfl) (by assumption) ?q371 ?q372
  case q371 => (intro o ho; obtain rfl := Option.some.inj ho; refine Or.inl ⟨by go_simp, ?_⟩; intro w hSw; (try dsimp only at hSw); go_simp; (try simp [put_get, put_ne, put_size, hs]); (try with_reducible rfl); (try omega))
  case q372 =>
  refine step_skip 25 152 hQ (by kernel_rfl) (by kernel_rfl) (by kernel_rfl) (by kernel_rfl) (by assumption) ?q373 ?q374
  case q373 => (intro o ho; obtain rfl := Option.some.inj ho; go_simp; (try simp [put_get, put_ne, put_size, hs]); (try first | exact (show ¬ ((none : Option Bool) = some true) by simp) | exact (show ¬ ((none : Option Bool) = some false) by simp)))
  case q374 =>
  refine step_skip 26 153 hQ (by kernel_rfl) (by kernel_rfl) (by kernel_rfl) (by kernel_rfl) (by assumption) ?q375 ?q376
  case q375 => (intro o ho; obtain rfl := Option.some.inj ho; go_simp; (try simp [put_get, put_ne, put_size, hs]); (try first | exact (show ¬ ((none : Option Bool) = some true) by simp) | exact (show ¬ ((none : Option Bool) = some false) by simp)))
  case q376 =>
  refine step_skip 27 154 hQ (by kernel_rfl) (by kernel_rfl) (by kernel_rfl) (by kernel_rfl) (by assumption) ?q377 ?q378
  case q377 => (intro o ho; obtain rfl := Option.some.inj ho; go_simp; (try simp [put_get, put_ne, put_size, hs]); (try first | exact (show ¬ ((none : Option Bool) = some true) by simp) | exact (show ¬ ((none : Option Bool) = some false) by simp)))
  case q378 =>
  refine step_skip 28 155 hQ (by kernel_rfl) (by kernel_rfl) (by kernel_rfl) (by kernel_rfl) (by assumption) ?q379 ?q380
  case q379 => (intro o ho; obtain rfl := Option.some.inj ho; go_simp; (try simp [put_get, put_ne, put_size, hs]); (try first | exact (show ¬ ((none : Option Bool) = some true) by simp) | exact (show ¬ ((none : Option Bool) = some false) by simp)))
  case q380 =>
  refine step_skip 29 156 hQ (by kernel_rfl) (by kernel_rfl) (by kernel_rfl) (by kernel_rfl) (by assumption) ?q381 ?q382
  case q381 => (intro o ho; obtain rfl := Option.some.inj ho; go_simp; (try simp [put_get, put_ne, put_size, hs]); (try first | exact (show ¬ ((none : Option Bool) = some true) by simp) | exact (show ¬ ((none : Option Bool) = some false) by simp)))
  case q382 =>
  refine step_skip 30 157 hQ (by kernel_rfl) (by kernel_rfl) (by kernel_rfl) (by kernel_rfl) (by assumption) ?q383 ?q384
  case q383 => (intro o ho; obtain rfl := Option.some.inj ho; go_simp; (try simp [put_get, put_ne, put_size, hs]); (try first | exact (show ¬ ((none : Option Bool) = some true) by simp) | exact (show ¬ ((none : Option Bool) = some false) by simp)))
  case q384 =>
  refine step_skip 31 158 hQ (by kernel_rfl) (by kernel_rfl) (by kernel_rfl) (by kernel_rfl) (by assumption) ?q385 ?q386
  case q385 => (intro o ho; obtain rfl := Option.some.inj ho; go_simp; (try simp [put_get, put_ne, put_size, hs]); (try first | exact (show ¬ ((none : Option Bool) = some true) by simp) | exact (show ¬ ((none : Option Bool) = some false) by simp)))
  case q386 =>
  refine step_skip 32 159 hQ (by kernel_rfl) (by kernel_rfl) (by kernel_rfl) (by kernel_rfl) (by assumption) ?q387 ?q388
  case q387 => (intro o ho; obtain rfl := Option.some.inj ho; go_simp; (try simp [put_get, put_ne, put_size, hs]); (try first | exact (show ¬ ((none : Option Bool) = some true) by simp) | exact (show ¬ ((none : Option Bool) = some false) by simp)))
  case q388 =>
  refine step_skip 33 160 hQ (by kernel_rfl) (by kernel_rfl) (by kernel_rfl) (by kernel_rfl) (by assumption) ?q389 ?q390
  case q389 => (intro o ho; obtain rfl := Option.some.inj ho; go_simp; (try simp [put_get, put_ne, put_size, hs]); (try first | exact (show ¬ ((none : Option Bool) = some true) by simp) | exact (show ¬ ((none : Option Bool) = some false) by simp)))
  case q390 =>
  refine step_skip 34 161 hQ (by kernel_rfl) (by kernel_rfl) (by kernel_rfl) (by kernel_rfl) (by assumption) ?q391 ?q392
  case q391 => (intro o ho; obtain rfl := Option.some.inj ho; go_simp; (try simp [put_get, put_ne, put_size, hs]); (try first | exact (show ¬ ((none : Option Bool) = some true) by simp) | exact (show ¬ ((none : Option Bool) = some false) by simp)))
  case q392 =>
  refine step_take 35 162 (v := .bool false) hQ (by kernel_rfl) (by kernel_rfl) (by kernel_rfl) (by kernel_rfl) (by assumption) ?q393 ?q394
  case q393 => (intro o ho; obtain rfl := Option.some.inj ho; refine Or.inl ⟨by go_simp, ?_⟩; intro w hSw; (try dsimp only at hSw); go_simp; (try simp [put_get, put_ne, put_size, hs]); (try with_reducible rfl); (try omega))
  case q394 =>
  refine step_take 36 163 (v := .bool false) hQ (by kernel_rfl) (by kernel_rfl) (by kernel_rfl) (by kernel_rfl) (by assumption) ?q395 ?q396
  case q395 => (intro o ho; obtain rfl := Option.some.inj ho; refine Or.inl ⟨by go_simp, ?_⟩; intro w hSw; (try dsimp only at hSw); go_simp; (try simp [put_get, put_ne, put_size, hs]); (try with_reducible rfl); (try omega))
  case q396 =>
  refine step_take 37 164 (v := .bool false) hQ (by kernel_rfl) (by kernel_rfl) (by kernel_rfl) (by kernel_rfl) (by assumption) ?q397 ?q398
  case q397 => (intro o ho; obtain rfl := Option.some.inj ho; refine Or.inl ⟨by rfl, ?_⟩; intro w hSw; (try dsimp only at hSw); go_simp; (try simp [put_get, put_ne, put_size, hs]); (try with_reducible rfl); (try omega))
  case q398 =>
  refine step_take 38 8 (v := .bool false) hQ (by kernel_rfl) (by kernel_rfl) (by kernel_rfl) (by kernel_rfl) (by assumption) ?q399 ?q400
  case q399 => (intro o ho; obtain rfl := Option.some.inj ho; refine Or.inl ⟨by rfl, ?_⟩; intro w hSw; (try dsimp only at hSw); go_simp; (try simp [put_get, put_ne, put_size, hs]); (try with_reducible rfl); (try omega))
  case q400 =>
  refine wpAnyH_done (by kernel_rfl) ?_ _
  simp only [Act.put]
  refine hR _ ?_ (set_get (by simp [hs]))
  repeat (with_reducible refine Keep.set ?_ _ _ (by decide))
  with_reducible exact Keep.refl _ _ _ _
end Go.Proofs.YtoldjleojnlhiaaDoor
