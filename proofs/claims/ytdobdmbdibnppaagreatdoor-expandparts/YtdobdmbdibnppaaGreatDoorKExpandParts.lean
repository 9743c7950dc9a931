/-
  The law ExpandParts: every call of it returns true, from a world that holds the tables.
-/
import Derived.Test.YtdobdmbdibnppaaGreatDoorBs5
import Derived.Test.YtdobdmbdibnppaaGreatDoorXp5
namespace Go.Proofs.YtdobdmbdibnppaaGreatDoor
open Go Go.RowKit
theorem expandParts_walk (f n k : Nat) (_hf : f ≤ 255) (hn : n ≤ 4294967295) (_hk : k ≤ 255) (w : World) (hT : Tab7 w) : Calls Tryz.prog 3 #[.int .u8 f, .int .u32 n, .int .u8 k] w fun e w' => e = .returned (.bool true) ∧ Below w.heap.size w w' := by
  obtain ⟨d1, d2⟩ := dayV_in n k
  have hc : f % 4 < 4 := Nat.mod_lt _ (by omega)
  obtain ⟨s, e, p0, hs, he, p1, p2, p3⟩ := Cal.parts hc d1 d2
  have rs := Cal.per_in p1
  have re := Cal.per_in p2
  have hO : ∀ (x : Int) (t : Bool), decide (e = 3652059) = t → ∀ o ∈ prtO (f % 4) t, @OEOk (ltrL [.int .u8 f, .int .u32 n, .int .u8 k, .int .u8 (f % 4 : Nat), .int .i64 (dayV n k), .int .i64 s, .int .i64 e, .int .i64 (e + 1), .int .i64 x]) Tryz.prog o := fun x t ht => by
    let _ : Ltr := ltrL [.int .u8 f, .int .u32 n, .int .u8 k, .int .u8 (f % 4 : Nat), .int .i64 (dayV n k), .int .i64 s, .int .i64 e, .int .i64 (e + 1), .int .i64 x]
    exact ac (li rfl rfl (xi_remk (by omega)) (to_ltr rfl rfl)) (ac (cv_freq hc rfl) (ac (ll rfl rfl (xi_gt (decide_eq_false (by omega))) (to_flat rfl)) (ac (ll rfl rfl (xi_lt (decide_eq_false (by omega))) (to_flat rfl)) (ac (spnE_ok rfl rfl)
      (ac (li rfl rfl (xi_eq ht) (to_flat rfl)) (ac (li rfl rfl (xi_add rfl (by omega)) (to_ltr rfl rfl)) (ac (ll rfl rfl (xi_eq (decide_eq_true rfl)) (to_flat rfl)) an)))))))
  have per : ∀ {a u v : Int}, Cal.Per (f % 4) a u v → ∀ w' : World, (∀ b, (kep w) b → w'.heap[b]? = (kep w).ob b) → Calls Tryz.prog 6 #[.int .i64 (f % 4 : Nat), .int .i64 a] w' fun r w2 => r = .returned (.agg ⟨[.int .i64 u, .int .i64 v]⟩) ∧ Below w'.heap.size w' w2 := fun p w' k => period_per hc p w' (hT.t.keep k)
  have aw : ∀ w' : World, (∀ b, (kep w) b → w'.heap[b]? = (kep w).ob b) → Calls Tryz.prog 4 #[] w' fun e w2 => e = .returned (.bool true) ∧ Below w'.heap.size w' w2 := fun w' k => awk5 w' (hT.t.keep k)
  by_cases hl : e = 3652059
  · let L : List Value := [.int .u8 f, .int .u32 n, .int .u8 k, .int .u8 (f % 4 : Nat), .int .i64 (dayV n k), .int .i64 s, .int .i64 e, .int .i64 (e + 1), .int .i64 0]
    let _ : Ltr := ltrL L
    exact symF L 60 (hO 0 true (decide_eq_true hl)) (ac (fixP_ok rfl aw) (ac (pg1 (rl_l rfl (rl_l rfl rl_nil)) (fun E => .ltr rfl rfl) fun w' _ => day5_any n k hn w')
      (ac (patP_ok (l := prtP (f % 4) true) (ac (pg (rl_f rfl (rl_l rfl rl_nil)) (spn rfl rfl rfl rfl) (per p0)) (ac (pg (rl_f rfl (rl_l rfl rl_nil)) (spn rfl rfl rfl rfl) (per p1)) (ac (pg (rl_f rfl (rl_l rfl rl_nil)) (spn rfl rfl rfl rfl) (per p2)) an)))) an)))
      (.cons (.ltr rfl rfl) (.cons (.ltr rfl rfl) (.cons (.ltr rfl rfl) .nil))) rfl (prt_run _ hc true)
  · have p4 := p3.resolve_left hl
    obtain ⟨x, p5⟩ := p4.2
    let L : List Value := [.int .u8 f, .int .u32 n, .int .u8 k, .int .u8 (f % 4 : Nat), .int .i64 (dayV n k), .int .i64 s, .int .i64 e, .int .i64 (e + 1), .int .i64 x]
    let _ : Ltr := ltrL L
    exact symF L 60 (hO x false (decide_eq_false hl)) (ac (fixP_ok rfl aw) (ac (pg1 (rl_l rfl (rl_l rfl rl_nil)) (fun E => .ltr rfl rfl) fun w' _ => day5_any n k hn w')
      (ac (patP_ok (l := prtP (f % 4) false) (ac (pg (rl_f rfl (rl_l rfl rl_nil)) (spn rfl rfl rfl rfl) (per p0)) (ac (pg (rl_f rfl (rl_l rfl rl_nil)) (spn rfl rfl rfl rfl) (per p1)) (ac (pg (rl_f rfl (rl_l rfl rl_nil)) (spn rfl rfl rfl rfl) (per p2)) (ac (pg (rl_f rfl (rl_l rfl rl_nil)) (spn rfl rfl rfl rfl) (per p5)) an))))) an)))
      (.cons (.ltr rfl rfl) (.cons (.ltr rfl rfl) (.cons (.ltr rfl rfl) .nil))) rfl (prt_run _ hc false)
end Go.Proofs.YtdobdmbdibnppaaGreatDoor
