/-
  The law LocaleApart: every call of it returns true, from a world that holds the tables.
-/
import Derived.Test.YtkhmbphcjacgnaaGreatDoorLa2
import Derived.Test.YtkhmbphcjacgnaaGreatDoorLa3
import Derived.Test.YtkhmbphcjacgnaaGreatDoorLa4
import Derived.Test.YtkhmbphcjacgnaaGreatDoorLa5
import Derived.Test.YtkhmbphcjacgnaaGreatDoorLa6
import Derived.Test.YtkhmbphcjacgnaaGreatDoorLa7
import Derived.Test.YtkhmbphcjacgnaaGreatDoorLa8
import Derived.Test.YtkhmbphcjacgnaaGreatDoorLa9
namespace Go.Proofs.YtkhmbphcjacgnaaGreatDoor
open Go Go.RowKit
theorem la_all {r c : Nat} (hr : r < 4) (hc : c < 15) : isBo true (laRun r c) = true := by
  have go : ∀ k, ((List.range 13).all fun c => isBo true (laRun k c)) = true → (([13, 14] : List Nat).all fun c => isBo true (laRun k c)) = true → isBo true (laRun k c) = true := fun k h1 h2 => by
    by_cases h : c < 13
    · exact List.all_eq_true.1 h1 c (List.mem_range.2 h)
    · exact List.all_eq_true.1 h2 c (by have : c = 13 ∨ c = 14 := by omega
                                        rcases this with rfl | rfl <;> simp)
  have : r = 0 ∨ r = 1 ∨ r = 2 ∨ r = 3 := by omega
  rcases this with rfl | rfl | rfl | rfl
  · exact go 0 la_run0a la_run0b
  · exact go 1 la_run1a la_run1b
  · exact go 2 la_run2a la_run2b
  · exact go 3 la_run3a la_run3b
theorem localeApart_walk (n cat : Nat) (_hn : n ≤ 255) (_hc : cat ≤ 255) (w : World) (hT : Tab7 w) : Calls Tryz.prog 4 #[.int .u8 n, .int .u8 cat] w fun e w' => e = .returned (.bool true) ∧ Below w.heap.size w w' := by
  let L : Ltr := ltrL [.int .u8 n, .int .u8 cat]
  have hr : n % 4 < 4 := Nat.mod_lt _ (by omega)
  have hc : cat % 15 < 15 := Nat.mod_lt _ (by omega)
  have hR : ∀ X : Kep, ∀ e ∈ laT (n % 4), @OEOkX L Tryz.prog X e := fun X => ac (@bl L _ _ _ _ _ _ rfl rfl (xk_rem (m := 4) (by omega)) (@to_flat L _ rfl)).x an
  have hp : @PrimOk L Tryz.prog (laP (n % 4)) 64 (kep w) 64 := @orP_ok L _ _ _ _ _ (@prL_ok _ _ _ L _ _ (ac (@fixP_ok _ _ _ L _ _ rfl fun w' k => awk9 w' (hT.t.keep k) (hT.m.keep k)) an))
    (@stP_ok L L (orcG 64 64 (laT (n % 4)) [] []) true (fun _ => rfl) Tryz.prog mkP 64 64 64 (kep w) mixed (fun w' _ => @orcG_ok _ _ _ _ L _ [] [] (hR (kep w')) an an) 100 _ _ ⟨64, []⟩ Loc.tabK _ _ (fun w' k => ⟨@st_start L w', mkP_ok fun _ k' => (hT.m.keep k).keep k'⟩) rfl (List.all_eq_true.1 la_tab (n % 4) (List.mem_range.2 hr)))
  have hO : ∀ e ∈ laO (n % 4) (cat % 15), @OEOkX L Tryz.prog (kep w) e := fun e he => (List.mem_append.1 he).elim (hR _ e) (ac (@bl L _ _ _ _ _ _ rfl rfl (xk_rem (m := 15) (by omega)) (@to_flat L _ rfl)).x an e)
  exact symP L 100 hO (ac (@del_ok _ _ _ L) an) an hp (.cons (.ltr rfl rfl) (.cons (.ltr rfl rfl) .nil)) rfl (isBo_eq (la_all hr hc))
end Go.Proofs.YtkhmbphcjacgnaaGreatDoor
