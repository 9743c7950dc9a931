/-
  The law ExpandPeriods: every call of it returns true, from a world that holds the tables.
-/
import Derived.Test.YtgfekmpgnofhbaaGreatDoorBs5
import Derived.Test.YtgfekmpgnofhbaaGreatDoorXp2
namespace Go.Proofs.YtgfekmpgnofhbaaGreatDoor
open Go Go.RowKit
theorem expandPeriods_walk (n k : Nat) (hn : n ≤ 4294967295) (_hk : k ≤ 255) (w : World) (hT : Tab7 w) : Calls Tryz.prog 3 #[.int .u32 n, .int .u8 k] w fun e w' => e = .returned (.bool true) ∧ Below w.heap.size w w' := by
  obtain ⟨d1, d2⟩ := dayV_in n k
  obtain ⟨y, m, q, h⟩ := Cal.is_ex _ d1 d2
  let L : List Value := [.int .u32 n, .int .u8 k, .int .i64 (dayV n k), .int .i64 (Cal.pf (0 : Nat) (dayV n k) y q), .int .i64 (Cal.pt (0 : Nat) (dayV n k) y m q), .int .i64 (Cal.pf (1 : Nat) (dayV n k) y q), .int .i64 (Cal.pt (1 : Nat) (dayV n k) y m q), .int .i64 (Cal.pf (2 : Nat) (dayV n k) y q), .int .i64 (Cal.pt (2 : Nat) (dayV n k) y m q), .int .i64 (Cal.pf (3 : Nat) (dayV n k) y q), .int .i64 (Cal.pt (3 : Nat) (dayV n k) y m q)]
  let _ : Ltr := ltrL L
  have ne : ∀ {i : Nat} {a : Int}, Ltr.v i = some (.int .i64 a) → OEOk Tryz.prog (binE .neq (Lt i) (Lt i) (.bool false)) := fun hi => ll hi hi x_nee (to_flat rfl)
  refine symF L 60 (args := [Lt 0, Lt 1]) (O := [binE .neq (Lt 3) (Lt 3) (.bool false), binE .neq (Lt 4) (Lt 4) (.bool false), binE .neq (Lt 5) (Lt 5) (.bool false), binE .neq (Lt 6) (Lt 6) (.bool false), binE .neq (Lt 7) (Lt 7) (.bool false), binE .neq (Lt 8) (Lt 8) (.bool false), binE .neq (Lt 9) (Lt 9) (.bool false), binE .neq (Lt 10) (Lt 10) (.bool false)])
    (l := [(4, fixP (.bool true)), (5, patP [([Lt 0, Lt 1], Lt 2)]), (6, patP [([.int .i64 (0 : Nat), Lt 2], .tuple ⟨[Lt 3, Lt 4]⟩), ([.int .i64 (1 : Nat), Lt 2], .tuple ⟨[Lt 5, Lt 6]⟩), ([.int .i64 (2 : Nat), Lt 2], .tuple ⟨[Lt 7, Lt 8]⟩), ([.int .i64 (3 : Nat), Lt 2], .tuple ⟨[Lt 9, Lt 10]⟩)]),
      (7, patP [([.int .i64 (0 : Nat), Lt 2], .agg ⟨[Lt 3, Lt 4]⟩), ([.int .i64 (1 : Nat), Lt 2], .agg ⟨[Lt 5, Lt 6]⟩), ([.int .i64 (2 : Nat), Lt 2], .agg ⟨[Lt 7, Lt 8]⟩), ([.int .i64 (3 : Nat), Lt 2], .agg ⟨[Lt 9, Lt 10]⟩)])])
    (ac (ne rfl) (ac (ne rfl) (ac (ne rfl) (ac (ne rfl) (ac (ne rfl) (ac (ne rfl) (ac (ne rfl) (ac (ne rfl) an))))))))
    (ac (fixP_ok rfl fun w' k => awk5 w' (hT.t.keep k)) (ac (pg1 (rl_l rfl (rl_l rfl rl_nil)) (fun E => .ltr rfl rfl) fun w' _ => day5_any n k hn w')
      (ac (patP_ok (ac (pg (rl_f rfl (rl_l rfl rl_nil)) (duo rfl rfl rfl rfl) fun w' _ => from_any 0 (by omega) _ y m q h w') (ac (pg (rl_f rfl (rl_l rfl rl_nil)) (duo rfl rfl rfl rfl) fun w' _ => from_any 1 (by omega) _ y m q h w') (ac (pg (rl_f rfl (rl_l rfl rl_nil)) (duo rfl rfl rfl rfl) fun w' _ => from_any 2 (by omega) _ y m q h w') (ac (pg (rl_f rfl (rl_l rfl rl_nil)) (duo rfl rfl rfl rfl) fun w' _ => from_any 3 (by omega) _ y m q h w') an)))))
      (ac (patP_ok (ac (pg (rl_f rfl (rl_l rfl rl_nil)) (spn rfl rfl rfl rfl) fun w' k => period_any 0 (by omega) _ y m q h w' (hT.t.keep k)) (ac (pg (rl_f rfl (rl_l rfl rl_nil)) (spn rfl rfl rfl rfl) fun w' k => period_any 1 (by omega) _ y m q h w' (hT.t.keep k)) (ac (pg (rl_f rfl (rl_l rfl rl_nil)) (spn rfl rfl rfl rfl) fun w' k => period_any 2 (by omega) _ y m q h w' (hT.t.keep k)) (ac (pg (rl_f rfl (rl_l rfl rl_nil)) (spn rfl rfl rfl rfl) fun w' k => period_any 3 (by omega) _ y m q h w' (hT.t.keep k)) an))))) an))))
    (.cons (.ltr rfl rfl) (.cons (.ltr rfl rfl) .nil)) rfl (by delta Sym; show _ = _; kernel_rfl)
end Go.Proofs.YtgfekmpgnofhbaaGreatDoor
