/-
  The law TableChecks: every call of it returns true, from a world that holds the tables.
-/
import Derived.Test.YtjfchpfbpmediaaGreatDoorBs7
import Derived.Test.YtjfchpfbpmediaaGreatDoorAw8
import Derived.Test.YtjfchpfbpmediaaGreatDoorTy4
import Derived.Test.YtjfchpfbpmediaaGreatDoorTy3a
import Derived.Test.YtjfchpfbpmediaaGreatDoorTy3b
import Derived.Test.YtjfchpfbpmediaaGreatDoorTy3c
import Derived.Test.YtjfchpfbpmediaaGreatDoorTy3d
import Derived.Test.YtjfchpfbpmediaaGreatDoorTy3e
namespace Go.Proofs.YtjfchpfbpmediaaGreatDoor
open Go Go.RowKit
theorem key_in : ∀ c < 15, ∀ v < Tbl.many c, (c, v) ∈ Tbl.keys := by
  intro c hc v hv
  unfold Tbl.keys
  exact List.mem_flatMap.2 ⟨c, List.mem_range.2 (by omega), List.mem_map.2 ⟨v, List.mem_range.2 hv, rfl⟩⟩
theorem tc_long : SymG [lenE 9 (Lt 5) (Lt 13), binE .gtr (Lt 13) (.int .i64 (60 : Nat)) (.bool true)] [] [] [(6, fixP (.bool true))] 60 3 [.agg ⟨[Lt 0, Lt 1, Lt 2, Lt 3, Lt 4, Lt 5]⟩] (.bool true) := by delta SymG; show _ = _; kernel_rfl
theorem tableChecks_walk (K S : Int) (cat val what : Nat) (word : ByteArray) (hK : -128 ≤ K ∧ K ≤ 127) (hS : -128 ≤ S ∧ S ≤ 127) (hc : cat ≤ 255) (hv : val ≤ 255) (hw : what ≤ 255) (w : World) (hT : Tab7 w) :
    Calls Tryz.prog 3 #[.agg #[.int .i8 K, .int .i8 S, .int .u8 cat, .int .u8 val, .int .u8 what, .string word]] w fun e w' => e = .returned (.bool true) ∧ Below w.heap.size w w' := by
  have haw : ∀ w' : World, (∀ b, (kep w) b → w'.heap[b]? = (kep w).ob b) → Calls Tryz.prog 6 #[] w' fun e w2 => e = .returned (.bool true) ∧ Below w'.heap.size w' w2 := fun w' k => awk8 w' (hT.t.keep k)
  by_cases hz : word.size ≤ 60
  · have hcl : cat % 15 < 15 := Nat.mod_lt _ (by omega)
    have hvl : val % Tbl.many (cat % 15) < Tbl.many (cat % 15) := Nat.mod_lt _ (by have := many_pos (cat % 15) hcl; omega)
    have hk := key_in _ hcl _ hvl
    have go := fun x v m y hx hy hm e => tc_go K S cat val what word hK hS hc hv hw hz w haw x v m y hx hy hm e
    have h6 : what % 6 = 0 ∨ what % 6 = 1 ∨ what % 6 = 2 ∨ what % 6 = 3 ∨ what % 6 = 4 ∨ what % 6 = 5 := by omega
    rcases h6 with h | h | h | h | h | h
    · have e := List.all_eq_true.1 tc_run0 (cat % 15) (List.mem_range.2 hcl)
      exact go 0 0 0 (Lt 15) h (.inl rfl) (fun h => by cases h) e
    · have e := List.all_eq_true.1 tc_run1 _ hk
      exact go 1 (val % Tbl.many (cat % 15)) 0 (.int .i64 (val % Tbl.many (cat % 15) : Nat)) h (.inr rfl) (fun h => by cases h) e
    · have h4 := two_lt S
      have hm : two S = 0 ∨ two S = 1 ∨ two S = 2 ∨ two S = 3 := by omega
      rcases hm with hm | hm | hm | hm
      · have e := List.all_eq_true.1 tc_run2a _ hk
        exact go 2 (val % Tbl.many (cat % 15)) 0 (.int .i64 (val % Tbl.many (cat % 15) : Nat)) h (.inr rfl) (fun _ => hm.symm) e
      · have e := List.all_eq_true.1 tc_run2b _ hk
        exact go 2 (val % Tbl.many (cat % 15)) 1 (.int .i64 (val % Tbl.many (cat % 15) : Nat)) h (.inr rfl) (fun _ => hm.symm) e
      · have e := List.all_eq_true.1 tc_run2c _ hk
        exact go 2 (val % Tbl.many (cat % 15)) 2 (.int .i64 (val % Tbl.many (cat % 15) : Nat)) h (.inr rfl) (fun _ => hm.symm) e
      · have e := List.all_eq_true.1 tc_run2d _ hk
        exact go 2 (val % Tbl.many (cat % 15)) 3 (.int .i64 (val % Tbl.many (cat % 15) : Nat)) h (.inr rfl) (fun _ => hm.symm) e
    · have e := List.all_eq_true.1 tc_run3 _ hk
      exact go 3 (val % Tbl.many (cat % 15)) 0 (.int .i64 (val % Tbl.many (cat % 15) : Nat)) h (.inr rfl) (fun h => by cases h) e
    · have e := tc_run4 _ hk
      exact go 4 (val % Tbl.many (cat % 15)) 0 (.int .i64 (val % Tbl.many (cat % 15) : Nat)) h (.inr rfl) (fun h => by cases h) e
    · have e := List.all_eq_true.1 tc_run5 (cat % 15) (List.mem_range.2 hcl)
      exact go 5 0 0 (Lt 15) h (.inl rfl) (fun h => by cases h) e
  · let L : Ltr := tcLt K S cat val what word 0
    exact symGF L 60 (ac (@len_ba L 5 13 word rfl rfl).x (ac (@bl L _ _ _ _ _ _ rfl rfl (xk_gt (decide_eq_true (by omega : 60 < word.size))) (@to_flat L _ rfl)).x an)) an an (ac (@fixP_ok _ _ _ L _ _ rfl haw) an) (.cons (.agg (.cons (.ltr rfl rfl) (.cons (.ltr rfl rfl) (.cons (.ltr rfl rfl) (.cons (.ltr rfl rfl) (.cons (.ltr rfl rfl) (.cons (.ltr rfl rfl) .nil))))))) .nil) rfl tc_long
end Go.Proofs.YtjfchpfbpmediaaGreatDoor
