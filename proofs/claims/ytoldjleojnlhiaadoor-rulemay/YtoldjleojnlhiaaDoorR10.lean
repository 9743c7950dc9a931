/-
  The law's Check: whether a number comes behind the one ahead of it (region 25), over a frame that is a letter.
-/
import Derived.Test.YtoldjleojnlhiaaDoorR7b
import Derived.IntWalk
namespace Go.Proofs.YtoldjleojnlhiaaDoor
open Go.RowKit

set_option maxRecDepth 100000 in
set_option maxHeartbeats 1000000 in
theorem reg25_first (a : Act) (w : World) (Q : Exit → Act → World → Prop) (hQ : Blind Q) (ad : Addr) (n cap i : Nat) (x : Int) (hs : a.tmps.size = 236) (h4 : a.tmps.getD 4 undef = .slice (some ad) n cap) (h6 : a.tmps.getD 6 undef = .int .i64 i)
    (hc : w.cell? (ad.add i) = some (.int .i64 x)) (h0 : i = 0)
    (hR : ∀ t, Keep 185 198 8 a.tmps t → t.getD 8 undef = .bool false → Q .normal ⟨t, a.defers⟩ w.drew) :
    (Code.region 25 ops25 true).wp Tryd.prog Q a w := by
  have q0 : ¬ (0 : Int) < (i : Int) := by omega
  clear h0
  have g4 := getD_at h4
  have g6 := getD_at h6
  conv => arg 2; arg 2; whnf
  refine wp_region_held_drew (S := (fun w' => w'.cell? (ad.add i) = some (.int .i64 x))) (by kernel_rfl) ?q1 (fun hHeld => ?q2)
  case q1 => (exact hc)
  case q2 =>
  refine step_take 0 185 (v := .int .i64 i) hQ (by kernel_rfl) (by kernel_rfl) (by kernel_rfl) (by kernel_rfl) (by assumption) ?q3 ?q4
  case q3 => (intro o ho; obtain rfl := Option.some.inj ho; refine Or.inl ⟨by rfl, ?_⟩; intro w hSw; (try dsimp only at hSw); go_simp; (try simp [put_get, put_ne, put_size, hs]); (try with_reducible rfl); (try omega))
  case q4 =>
  refine step_take 1 186 (v := .bool false) hQ (by kernel_rfl) (by kernel_rfl) (by kernel_rfl) (by kernel_rfl) (by assumption) ?q5 ?q6
  case q5 => (intro o ho; obtain rfl := Option.some.inj ho; refine Or.inl ⟨by rfl, ?_⟩; intro w hSw; (try dsimp only at hSw); go_simp; (try simp [put_get, put_ne, put_size, hs]); (try with_reducible rfl); (try omega))
  case q6 =>
  refine step_take 2 187 (v := .bool false) hQ (by kernel_rfl) (by kernel_rfl) (by kernel_rfl) (by kernel_rfl) (by assumption) ?q7 ?q8
  case q7 => (intro o ho; obtain rfl := Option.some.inj ho; refine Or.inl ⟨by rfl, ?_⟩; intro w hSw; (try dsimp only at hSw); go_simp; (try simp [put_get, put_ne, put_size, hs]); (try with_reducible rfl); (try omega))
  case q8 =>
  refine step_skip 3 188 hQ (by kernel_rfl) (by kernel_rfl) (by kernel_rfl) (by kernel_rfl) (by assumption) ?q9 ?q10
  case q9 => (intro o ho; obtain rfl := Option.some.inj ho; go_simp; (try simp [put_get, put_ne, put_size, hs]); (try exact (show ¬ ((none : Option Bool) = some true) by simp)))
  case q10 =>
  refine step_skip 4 189 hQ (by kernel_rfl) (by kernel_rfl) (by kernel_rfl) (by kernel_rfl) (by assumption) ?q11 ?q12
  case q11 => (intro o ho; obtain rfl := Option.some.inj ho; go_simp; (try simp [put_get, put_ne, put_size, hs]); (try exact (show ¬ ((none : Option Bool) = some true) by simp)))
  case q12 =>
  refine step_skip 5 190 hQ (by kernel_rfl) (by kernel_rfl) (by kernel_rfl) (by kernel_rfl) (by assumption) ?q13 ?q14
  case q13 => (intro o ho; obtain rfl := Option.some.inj ho; go_simp; (try simp [put_get, put_ne, put_size, hs]); (try exact (show ¬ ((none : Option Bool) = some true) by simp)))
  case q14 =>
  refine step_skip 6 191 hQ (by kernel_rfl) (by kernel_rfl) (by kernel_rfl) (by kernel_rfl) (by assumption) ?q15 ?q16
  case q15 => (intro o ho; obtain rfl := Option.some.inj ho; go_simp; (try simp [put_get, put_ne, put_size, hs]); (try exact (show ¬ ((none : Option Bool) = some true) by simp)))
  case q16 =>
  refine step_skip 7 192 hQ (by kernel_rfl) (by kernel_rfl) (by kernel_rfl) (by kernel_rfl) (by assumption) ?q17 ?q18
  case q17 => (intro o ho; obtain rfl := Option.some.inj ho; go_simp; (try simp [put_get, put_ne, put_size, hs]); (try exact (show ¬ ((none : Option Bool) = some true) by simp)))
  case q18 =>
  refine step_skip 8 193 hQ (by kernel_rfl) (by kernel_rfl) (by kernel_rfl) (by kernel_rfl) (by assumption) ?q19 ?q20
  case q19 => (intro o ho; obtain rfl := Option.some.inj ho; go_simp; (try simp [put_get, put_ne, put_size, hs]); (try exact (show ¬ ((none : Option Bool) = some true) by simp)))
  case q20 =>
  refine step_skip 9 194 hQ (by kernel_rfl) (by kernel_rfl) (by kernel_rfl) (by kernel_rfl) (by assumption) ?q21 ?q22
  case q21 => (intro o ho; obtain rfl := Option.some.inj ho; go_simp; (try simp [put_get, put_ne, put_size, hs]); (try exact (show ¬ ((none : Option Bool) = some true) by simp)))
  case q22 =>
  refine step_skip 10 195 hQ (by kernel_rfl) (by kernel_rfl) (by kernel_rfl) (by kernel_rfl) (by assumption) ?q23 ?q24
  case q23 => (intro o ho; obtain rfl := Option.some.inj ho; go_simp; (try simp [put_get, put_ne, put_size, hs]); (try exact (show ¬ ((none : Option Bool) = some true) by simp)))
  case q24 =>
  refine step_skip 11 196 hQ (by kernel_rfl) (by kernel_rfl) (by kernel_rfl) (by kernel_rfl) (by assumption) ?q25 ?q26
  case q25 => (intro o ho; obtain rfl := Option.some.inj ho; go_simp; (try simp [put_get, put_ne, put_size, hs]); (try exact (show ¬ ((none : Option Bool) = some true) by simp)))
  case q26 =>
  refine step_skip 12 197 hQ (by kernel_rfl) (by kernel_rfl) (by kernel_rfl) (by kernel_rfl) (by assumption) ?q27 ?q28
  case q27 => (intro o ho; obtain rfl := Option.some.inj ho; go_simp; (try simp [put_get, put_ne, put_size, hs]); (try exact (show ¬ ((none : Option Bool) = some true) by simp)))
  case q28 =>
  refine step_take 13 198 (v := .bool false) hQ (by kernel_rfl) (by kernel_rfl) (by kernel_rfl) (by kernel_rfl) (by assumption) ?q29 ?q30
  case q29 => (intro o ho; obtain rfl := Option.some.inj ho; refine Or.inl ⟨by rfl, ?_⟩; intro w hSw; (try dsimp only at hSw); go_simp; (try simp [put_get, put_ne, put_size, hs]); (try with_reducible rfl); (try omega))
  case q30 =>
  refine step_take 14 8 (v := .bool false) hQ (by kernel_rfl) (by kernel_rfl) (by kernel_rfl) (by kernel_rfl) (by assumption) ?q31 ?q32
  case q31 => (intro o ho; obtain rfl := Option.some.inj ho; refine Or.inl ⟨by rfl, ?_⟩; intro w hSw; (try dsimp only at hSw); go_simp; (try simp [put_get, put_ne, put_size, hs]); (try with_reducible rfl); (try omega))
  case q32 =>
  refine wpAnyH_done (by kernel_rfl) ?_ _
  simp only [Act.put]
  refine hR _ ?_ (set_get (by simp [hs]))
  repeat (with_reducible refine Keep.set ?_ _ _ (by decide))
  with_reducible exact Keep.refl _ _ _ _

set_option maxRecDepth 100000 in
set_option maxHeartbeats 1000000 in
theorem reg25_late (a : Act) (w : World) (Q : Exit → Act → World → Prop) (hQ : Blind Q) (ad : Addr) (n cap i : Nat) (x : Int) (hs : a.tmps.size = 236) (h4 : a.tmps.getD 4 undef = .slice (some ad) n cap) (h6 : a.tmps.getD 6 undef = .int .i64 i)
    (hi : i < n) (hn : n ≤ 64) (hc : w.cell? (ad.add i) = some (.int .i64 x)) (h0 : 0 < i) (y : Int) (hc1 : w.cell? (ad.add (i - 1)) = some (.int .i64 y)) (hy : x ≤ y)
    (hR : ∀ t, Keep 185 198 8 a.tmps t → t.getD 8 undef = .bool true → Q .normal ⟨t, a.defers⟩ w.drew) :
    (Code.region 25 ops25 true).wp Tryd.prog Q a w := by
  have q2 : (0 : Int) ≤ (i : Int) - 1 := by omega
  have q3 : (1 : Int) ≤ (i : Int) := by omega
  have q4 : (i : Int) - 1 < (n : Int) := by omega
  have q5 : ((i : Int) - 1).toNat = i - 1 := by omega
  have q1 : IntKind.i64.wrap ((i : Int) - 1) = (i : Int) - 1 := IntWalk.i64_in _ (by omega)
  have g4 := getD_at h4
  have g6 := getD_at h6
  conv => arg 2; arg 2; whnf
  refine wp_region_held_drew (S := (fun w' => w'.cell? (ad.add i) = some (.int .i64 x) ∧ w'.cell? (ad.add (i - 1)) = some (.int .i64 y))) (by kernel_rfl) ?q33 (fun hHeld => ?q34)
  case q33 => (exact ⟨hc, hc1⟩)
  case q34 =>
  refine step_take 0 185 (v := .int .i64 i) hQ (by kernel_rfl) (by kernel_rfl) (by kernel_rfl) (by kernel_rfl) (by assumption) ?q35 ?q36
  case q35 => (intro o ho; obtain rfl := Option.some.inj ho; refine Or.inl ⟨by rfl, ?_⟩; intro w hSw; (try dsimp only at hSw); go_simp; (try simp [put_get, put_ne, put_size, hs]); (try with_reducible rfl); (try omega))
  case q36 =>
  refine step_take 1 186 (v := .bool true) hQ (by kernel_rfl) (by kernel_rfl) (by kernel_rfl) (by kernel_rfl) (by assumption) ?q37 ?q38
  case q37 => (intro o ho; obtain rfl := Option.some.inj ho; refine Or.inl ⟨by rfl, ?_⟩; intro w hSw; (try dsimp only at hSw); go_simp; (try simp [put_get, put_ne, put_size, hs]); (try with_reducible rfl); (try omega))
  case q38 =>
  refine step_take 2 187 (v := .bool true) hQ (by kernel_rfl) (by kernel_rfl) (by kernel_rfl) (by kernel_rfl) (by assumption) ?q39 ?q40
  case q39 => (intro o ho; obtain rfl := Option.some.inj ho; refine Or.inl ⟨by rfl, ?_⟩; intro w hSw; (try dsimp only at hSw); go_simp; (try simp [put_get, put_ne, put_size, hs]); (try with_reducible rfl); (try omega))
  case q40 =>
  refine step_take 3 188 (v := .slice (some ad) n cap) hQ (by kernel_rfl) (by kernel_rfl) (by kernel_rfl) (by kernel_rfl) (by assumption) ?q41 ?q42
  case q41 => (intro o ho; obtain rfl := Option.some.inj ho; refine Or.inl ⟨by go_simp, ?_⟩; intro w hSw; (try dsimp only at hSw); go_simp; (try simp [put_get, put_ne, put_size, hs]); (try with_reducible rfl); (try omega))
  case q42 =>
  refine step_take 4 189 (v := .int .i64 i) hQ (by kernel_rfl) (by kernel_rfl) (by kernel_rfl) (by kernel_rfl) (by assumption) ?q43 ?q44
  case q43 => (intro o ho; obtain rfl := Option.some.inj ho; refine Or.inl ⟨by go_simp, ?_⟩; intro w hSw; (try dsimp only at hSw); go_simp; (try simp [put_get, put_ne, put_size, hs]); (try with_reducible rfl); (try omega))
  case q44 =>
  refine step_take 5 190 (v := .int .i64 (i - 1 : Int)) hQ (by kernel_rfl) (by kernel_rfl) (by kernel_rfl) (by kernel_rfl) (by assumption) ?q45 ?q46
  case q45 => (intro o ho; obtain rfl := Option.some.inj ho; refine Or.inl ⟨by go_simp, ?_⟩; intro w hSw; (try dsimp only at hSw); go_simp; (try simp [put_get, put_ne, put_size, hs]); (try with_reducible rfl); (try omega))
  case q46 =>
  refine step_take 6 191 (v := .pointer (some (ad.add (i - 1)))) hQ (by kernel_rfl) (by kernel_rfl) (by kernel_rfl) (by kernel_rfl) (by assumption) ?q47 ?q48
  case q47 => (intro o ho; obtain rfl := Option.some.inj ho; refine Or.inl ⟨by go_simp, ?_⟩; intro w hSw; (try dsimp only at hSw); go_simp; (try simp [put_get, put_ne, put_size, hs]); (try with_reducible rfl); (try omega))
  case q48 =>
  refine step_take 7 192 (v := .int .i64 y) hQ (by kernel_rfl) (by kernel_rfl) (by kernel_rfl) (by kernel_rfl) (by assumption) ?q49 ?q50
  case q49 => (intro o ho; obtain rfl := Option.some.inj ho; refine Or.inl ⟨by go_simp, ?_⟩; intro w hSw; (try dsimp only at hSw); go_simp; (try simp [put_get, put_ne, put_size, hs]); (try with_reducible rfl); (try omega))
  case q50 =>
  refine step_take 8 193 (v := .slice (some ad) n cap) hQ (by kernel_rfl) (by kernel_rfl) (by kernel_rfl) (by kernel_rfl) (by assumption) ?q51 ?q52
  case q51 => (intro o ho; obtain rfl := Option.some.inj ho; refine Or.inl ⟨by go_simp, ?_⟩; intro w hSw; (try dsimp only at hSw); go_simp; (try simp [put_get, put_ne, put_size, hs]); (try with_reducible rfl); (try omega))
  case q52 =>
  refine step_take 9 194 (v := .int .i64 i) hQ (by kernel_rfl) (by kernel_rfl) (by kernel_rfl) (by kernel_rfl) (by assumption) ?q53 ?q54
  case q53 => (intro o ho; obtain rfl := Option.some.inj ho; refine Or.inl ⟨by go_simp, ?_⟩; intro w hSw; (try dsimp only at hSw); go_simp; (try simp [put_get, put_ne, put_size, hs]); (try with_reducible rfl); (try omega))
  case q54 =>
  refine step_take 10 195 (v := .pointer (some (ad.add i))) hQ (by kernel_rfl) (by kernel_rfl) (by kernel_rfl) (by kernel_rfl) (by assumption) ?q55 ?q56
  case q55 => (intro o ho; obtain rfl := Option.some.inj ho; refine Or.inl ⟨by go_simp, ?_⟩; intro w hSw; (try dsimp only at hSw); go_simp; (try simp [put_get, put_ne, put_size, hs]); (try with_reducible rfl); (try omega))
  case q56 =>
  refine step_take 11 196 (v := .int .i64 x) hQ (by kernel_rfl) (by kernel_rfl) (by kernel_rfl) (by kernel_rfl) (by assumption) ?q57 ?q58
  case q57 => (intro o ho; obtain rfl := Option.some.inj ho; refine Or.inl ⟨by go_simp, ?_⟩; intro w hSw; (try dsimp only at hSw); go_simp; (try simp [put_get, put_ne, put_size, hs]); (try with_reducible rfl); (try omega))
  case q58 =>
  refine step_take 12 197 (v := .bool true) hQ (by kernel_rfl) (by kernel_rfl) (by kernel_rfl) (by kernel_rfl) (by assumption) ?q59 ?q60
  case q59 => (intro o ho; obtain rfl := Option.some.inj ho; refine Or.inl ⟨by go_simp, ?_⟩; intro w hSw; (try dsimp only at hSw); go_simp; (try simp [put_get, put_ne, put_size, hs]); (try with_reducible rfl); (try omega))
  case q60 =>
  refine step_take 13 198 (v := .bool true) hQ (by kernel_rfl) (by kernel_rfl) (by kernel_rfl) (by kernel_rfl) (by assumption) ?q61 ?q62
  case q61 => (intro o ho; obtain rfl := Option.some.inj ho; refine Or.inl ⟨by rfl, ?_⟩; intro w hSw; (try dsimp only at hSw); go_simp; (try simp [put_get, put_ne, put_size, hs]); (try with_reducible rfl); (try omega))
  case q62 =>
  refine step_take 14 8 (v := .bool true) hQ (by kernel_rfl) (by kernel_rfl) (by kernel_rfl) (by kernel_rfl) (by assumption) ?q63 ?q64
  case q63 => (intro o ho; obtain rfl := Option.some.inj ho; refine Or.inl ⟨by rfl, ?_⟩; intro w hSw; (try dsimp only at hSw); go_simp; (try simp [put_get, put_ne, put_size, hs]); (try with_reducible rfl); (try omega))
  case q64 =>
  refine wpAnyH_done (by kernel_rfl) ?_ _
  simp only [Act.put]
  refine hR _ ?_ (set_get (by simp [hs]))
  repeat (with_reducible refine Keep.set ?_ _ _ (by decide))
  with_reducible exact Keep.refl _ _ _ _

set_option maxRecDepth 100000 in
set_option maxHeartbeats 1000000 in
theorem reg25_next (a : Act) (w : World) (Q : Exit → Act → World → Prop) (hQ : Blind Q) (ad : Addr) (n cap i : Nat) (x : Int) (hs : a.tmps.size = 236) (h4 : a.tmps.getD 4 undef = .slice (some ad) n cap) (h6 : a.tmps.getD 6 undef = .int .i64 i)
    (hi : i < n) (hn : n ≤ 64) (hc : w.cell? (ad.add i) = some (.int .i64 x)) (h0 : 0 < i) (y : Int) (hc1 : w.cell? (ad.add (i - 1)) = some (.int .i64 y)) (hy : y < x)
    (hR : ∀ t, Keep 185 198 8 a.tmps t → t.getD 8 undef = .bool false → Q .normal ⟨t, a.defers⟩ w.drew) :
    (Code.region 25 ops25 true).wp Tryd.prog Q a w := by
  have hyy : ¬ x ≤ y := by omega
  have q2 : (0 : Int) ≤ (i : Int) - 1 := by omega
  have q3 : (1 : Int) ≤ (i : Int) := by omega
  have q4 : (i : Int) - 1 < (n : Int) := by omega
  have q5 : ((i : Int) - 1).toNat = i - 1 := by omega
  have q1 : IntKind.i64.wrap ((i : Int) - 1) = (i : Int) - 1 := IntWalk.i64_in _ (by omega)
  have g4 := getD_at h4
  have g6 := getD_at h6
  conv => arg 2; arg 2; whnf
  refine wp_region_held_drew (S := (fun w' => w'.cell? (ad.add i) = some (.int .i64 x) ∧ w'.cell? (ad.add (i - 1)) = some (.int .i64 y))) (by kernel_rfl) ?q65 (fun hHeld => ?q66)
  case q65 => (exact ⟨hc, hc1⟩)
  case q66 =>
  refine step_take 0 185 (v := .int .i64 i) hQ (by kernel_rfl) (by kernel_rfl) (by kernel_rfl) (by kernel_rfl) (by assumption) ?q67 ?q68
  case q67 => (intro o ho; obtain rfl := Option.some.inj ho; refine Or.inl ⟨by rfl, ?_⟩; intro w hSw; (try dsimp only at hSw); go_simp; (try simp [put_get, put_ne, put_size, hs]); (try with_reducible rfl); (try omega))
  case q68 =>
  refine step_take 1 186 (v := .bool true) hQ (by kernel_rfl) (by kernel_rfl) (by kernel_rfl) (by kernel_rfl) (by assumption) ?q69 ?q70
  case q69 => (intro o ho; obtain rfl := Option.some.inj ho; refine Or.inl ⟨by rfl, ?_⟩; intro w hSw; (try dsimp only at hSw); go_simp; (try simp [put_get, put_ne, put_size, hs]); (try with_reducible rfl); (try omega))
  case q70 =>
  refine step_take 2 187 (v := .bool true) hQ (by kernel_rfl) (by kernel_rfl) (by kernel_rfl) (by kernel_rfl) (by assumption) ?q71 ?q72
  case q71 => (intro o ho; obtain rfl := Option.some.inj ho; refine Or.inl ⟨by rfl, ?_⟩; intro w hSw; (try dsimp only at hSw); go_simp; (try simp [put_get, put_ne, put_size, hs]); (try with_reducible rfl); (try omega))
  case q72 =>
  refine step_take 3 188 (v := .slice (some ad) n cap) hQ (by kernel_rfl) (by kernel_rfl) (by kernel_rfl) (by kernel_rfl) (by assumption) ?q73 ?q74
  case q73 => (intro o ho; obtain rfl := Option.some.inj ho; refine Or.inl ⟨by go_simp, ?_⟩; intro w hSw; (try dsimp only at hSw); go_simp; (try simp [put_get, put_ne, put_size, hs]); (try with_reducible rfl); (try omega))
  case q74 =>
  refine step_take 4 189 (v := .int .i64 i) hQ (by kernel_rfl) (by kernel_rfl) (by kernel_rfl) (by kernel_rfl) (by assumption) ?q75 ?q76
  case q75 => (intro o ho; obtain rfl := Option.some.inj ho; refine Or.inl ⟨by go_simp, ?_⟩; intro w hSw; (try dsimp only at hSw); go_simp; (try simp [put_get, put_ne, put_size, hs]); (try with_reducible rfl); (try omega))
  case q76 =>
  refine step_take 5 190 (v := .int .i64 (i - 1 : Int)) hQ (by kernel_rfl) (by kernel_rfl) (by kernel_rfl) (by kernel_rfl) (by assumption) ?q77 ?q78
  case q77 => (intro o ho; obtain rfl := Option.some.inj ho; refine Or.inl ⟨by go_simp, ?_⟩; intro w hSw; (try dsimp only at hSw); go_simp; (try simp [put_get, put_ne, put_size, hs]); (try with_reducible rfl); (try omega))
  case q78 =>
  refine step_take 6 191 (v := .pointer (some (ad.add (i - 1)))) hQ (by kernel_rfl) (by kernel_rfl) (by kernel_rfl) (by kernel_rfl) (by assumption) ?q79 ?q80
  case q79 => (intro o ho; obtain rfl := Option.some.inj ho; refine Or.inl ⟨by go_simp, ?_⟩; intro w hSw; (try dsimp only at hSw); go_simp; (try simp [put_get, put_ne, put_size, hs]); (try with_reducible rfl); (try omega))
  case q80 =>
  refine step_take 7 192 (v := .int .i64 y) hQ (by kernel_rfl) (by kernel_rfl) (by kernel_rfl) (by kernel_rfl) (by assumption) ?q81 ?q82
  case q81 => (intro o ho; obtain rfl := Option.some.inj ho; refine Or.inl ⟨by go_simp, ?_⟩; intro w hSw; (try dsimp only at hSw); go_simp; (try simp [put_get, put_ne, put_size, hs]); (try with_reducible rfl); (try omega))
  case q82 =>
  refine step_take 8 193 (v := .slice (some ad) n cap) hQ (by kernel_rfl) (by kernel_rfl) (by kernel_rfl) (by kernel_rfl) (by assumption) ?q83 ?q84
  case q83 => (intro o ho; obtain rfl := Option.some.inj ho; refine Or.inl ⟨by go_simp, ?_⟩; intro w hSw; (try dsimp only at hSw); go_simp; (try simp [put_get, put_ne, put_size, hs]); (try with_reducible rfl); (try omega))
  case q84 =>
  refine step_take 9 194 (v := .int .i64 i) hQ (by kernel_rfl) (by kernel_rfl) (by kernel_rfl) (by kernel_rfl) (by assumption) ?q85 ?q86
  case q85 => (intro o ho; obtain rfl := Option.some.inj ho; refine Or.inl ⟨by go_simp, ?_⟩; intro w hSw; (try dsimp only at hSw); go_simp; (try simp [put_get, put_ne, put_size, hs]); (try with_reducible rfl); (try omega))
  case q86 =>
  refine step_take 10 195 (v := .pointer (some (ad.add i))) hQ (by kernel_rfl) (by kernel_rfl) (by kernel_rfl) (by kernel_rfl) (by assumption) ?q87 ?q88
  case q87 => (intro o ho; obtain rfl := Option.some.inj ho; refine Or.inl ⟨by go_simp, ?_⟩; intro w hSw; (try dsimp only at hSw); go_simp; (try simp [put_get, put_ne, put_size, hs]); (try with_reducible rfl); (try omega))
  case q88 =>
  refine step_take 11 196 (v := .int .i64 x) hQ (by kernel_rfl) (by kernel_rfl) (by kernel_rfl) (by kernel_rfl) (by assumption) ?q89 ?q90
  case q89 => (intro o ho; obtain rfl := Option.some.inj ho; refine Or.inl ⟨by go_simp, ?_⟩; intro w hSw; (try dsimp only at hSw); go_simp; (try simp [put_get, put_ne, put_size, hs]); (try with_reducible rfl); (try omega))
  case q90 =>
  refine step_take 12 197 (v := .bool false) hQ (by kernel_rfl) (by kernel_rfl) (by kernel_rfl) (by kernel_rfl) (by assumption) ?q91 ?q92
  case q91 => (intro o ho; obtain rfl := Option.some.inj ho; refine Or.inl ⟨by go_simp, ?_⟩; intro w hSw; (try dsimp only at hSw); go_simp; (try simp [put_get, put_ne, put_size, hs]); (try with_reducible rfl); (try omega))
  case q92 =>
  refine step_take 13 198 (v := .bool false) hQ (by kernel_rfl) (by kernel_rfl) (by kernel_rfl) (by kernel_rfl) (by assumption) ?q93 ?q94
  case q93 => (intro o ho; obtain rfl := Option.some.inj ho; refine Or.inl ⟨by rfl, ?_⟩; intro w hSw; (try dsimp only at hSw); go_simp; (try simp [put_get, put_ne, put_size, hs]); (try with_reducible rfl); (try omega))
  case q94 =>
  refine step_take 14 8 (v := .bool false) hQ (by kernel_rfl) (by kernel_rfl) (by kernel_rfl) (by kernel_rfl) (by assumption) ?q95 ?q96
  case q95 => (intro o ho; obtain rfl := Option.some.inj ho; refine Or.inl ⟨by rfl, ?_⟩; intro w hSw; (try dsimp only at hSw); go_simp; (try simp [put_get, put_ne, put_size, hs]); (try with_reducible rfl); (try omega))
  case q96 =>
  refine wpAnyH_done (by kernel_rfl) ?_ _
  simp only [Act.put]
  refine hR _ ?_ (set_get (by simp [hs]))
  repeat (with_reducible refine Keep.set ?_ _ _ (by decide))
  with_reducible exact Keep.refl _ _ _ _
end Go.Proofs.YtoldjleojnlhiaaDoor
