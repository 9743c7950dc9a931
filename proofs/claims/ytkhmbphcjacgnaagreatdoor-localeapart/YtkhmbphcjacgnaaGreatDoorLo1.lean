/-
  strings.Split at one byte, as a known call; the law's or the program's tables as data.
-/
import Derived.Test.YtkhmbphcjacgnaaGreatDoorEs
import Derived.Test.YtkhmbphcjacgnaaGreatDoorSp
import Derived.Test.YtkhmbphcjacgnaaGreatDoorShelf
namespace Go.Proofs.YtkhmbphcjacgnaaGreatDoor
open Go Go.RowKit
def splitV (n : Nat) (l : List (List UInt8)) : Value := .slice (some ⟨n, 0, none⟩) l.length l.length
def splitP : Prim := fun f args H => bif Nat.beq f 38 then match args with
    | [.string s, .string ⟨⟨[c]⟩⟩] => bif Nat.ble s.data.toList.length 100000 then some (splitV H.n (spl1 c.toNat s.data.toList), H.push (.row ((spl1 c.toNat s.data.toList).map fun x => .string ⟨⟨x⟩⟩) 9)) else none
    | _ => none
  else none
/-- the variable that holds how long a sought text may be -/
def MaxIn (w : World) : Prop := ∃ m : Int, w.cell? ⟨2, 0, none⟩ = some (.int .i64 m)
theorem MaxIn.keep {w w' : World} (h : MaxIn w) (k : ∀ b, (kep w) b → w'.heap[b]? = (kep w).ob b) : MaxIn w' := by
  obtain ⟨m, hm⟩ := h
  refine ⟨m, ?_⟩
  have hb : 2 < w.heap.size := World.block_lt_of_cell? _ _ hm
  have h2 : w'.heap[2]? = w.heap[2]? := k _ hb
  rw [← hm]
  simp only [World.cell?, h2]
theorem splitP_ok [Ltr] {G base : Nat} {X : Kep} (hm : ∀ w : World, (∀ b, X b → w.heap[b]? = X.ob b) → MaxIn w) : PrimOk Tryz.prog splitP G X base := by
  intro f args H v H1 E w args' hR hG hr h
  unfold splitP at h
  have h1 := cond_some h
  clear h
  obtain ⟨hf, h⟩ := h1
  obtain rfl := Nat.eq_of_beq_eq_true hf
  split at h
  · rename_i s c
    have h1 := cond_some h
    clear h
    obtain ⟨hl, h⟩ := h1
    obtain ⟨rfl, rfl⟩ := Prod.mk.inj (Option.some.inj h)
    cases hr with
    | cons r1 t1 =>
    cases t1 with
    | cons r2 t2 =>
    cases t2
    rw [r1.flat_eq rfl, r2.flat_eq rfl]
    obtain ⟨m, hm'⟩ := hm w hR.fx
    have hsz : s.size = s.data.toList.length := rfl
    have hl' := Nat.le_of_ble_eq_true hl
    refine Calls.mono (Tryz.strings_Split s ⟨#[c]⟩ m w (by omega) hm' (Nat.le_refl 1)) ?_
    rintro e w' ⟨rfl, rfl⟩
    have h1 := Lib.splitB_data ⟨#[c]⟩ 0 (Lib.countB s ⟨#[c]⟩) s
    have h2 : (Lib.splitB ⟨#[c]⟩ 0 (Lib.countB s ⟨#[c]⟩) s).map (·.data.toList) = spl1 c.toNat s.data.toList := h1.trans (spl1_eq c s.data.toList)
    have h3 : (Lib.splitB ⟨#[c]⟩ 0 (Lib.countB s ⟨#[c]⟩) s).map Value.string = (spl1 c.toNat s.data.toList).map fun x => .string ⟨⟨x⟩⟩ := by
      rw [← h2, List.map_map]
      exact List.map_congr_left fun x _ => rfl
    have h4 : Lib.countB s ⟨#[c]⟩ + 1 = (spl1 c.toNat s.data.toList).length := by
      rw [← h2, List.length_map]
      exact (Lib.splitB_all ⟨#[c]⟩ (Nat.le_refl 1) 0 _ s rfl).symm
    rw [h3, h4]
    obtain ⟨p1, p2, p3⟩ := hR.push (o := .row ((spl1 c.toNat s.data.toList).map fun x => .string ⟨⟨x⟩⟩) 9) (x := .cells ⟨(spl1 c.toNat s.data.toList).map fun x => .string ⟨⟨x⟩⟩⟩ 9) (k := 0) (fun F x => ⟨_, rfl, RelL.flats (by simp [flat])⟩)
    refine ⟨_, _, rfl, p2, p1, p3, ?_⟩
    have hbig : Nat.blt (spl1 c.toNat s.data.toList).length big = true := by
      have h5 := Lib.countB_le ⟨#[c]⟩ (Nat.le_refl 1) s.size s (Nat.le_refl _)
      rw [Nat.blt_eq, ← h4]
      unfold big
      omega
    have hs := Rel.sl (o := 0) (n := (spl1 c.toNat s.data.toList).length) (c := (spl1 c.toNat s.data.toList).length) (Ren.at (E := E) (n := H.n) (b := w.heap.size) (k := 0))
    rw [room_known hbig] at hs
    exact hs
  · cases h
/-- does it come to v? -/
def isBo (b : Bool) (x : Option (Value × RW)) : Bool :=
  match x with
  | some (.bool c, _) => b == c
  | _ => false
theorem isBo_eq {b : Bool} {x : Option (Value × RW)} (h : isBo b x = true) : x.map (·.1) = some (.bool b) := by
  unfold isBo at h
  split at h
  · rw [eq_of_beq h]; rfl
  · cases h
namespace Loc
def keyV (k : Nat × Nat) : Value := .agg ⟨[.int .i64 k.1, .int .i64 k.2]⟩
/-- a key's category, its value, its words -/
abbrev Row := (Nat × Nat) × List (List UInt8)
def str (s : List UInt8) : Value := .string ⟨⟨s⟩⟩
def ents : Nat → Nat → List Row → List MapEntry
  | _, _, [] => []
  | r, b, t :: T => { key := keyV t.1, val := .slice (some ⟨r, 0, none⟩) t.2.length t.2.length, born := b } :: ents (r + 1) (b + 1) T
def canon (name : List UInt8) (k s : Nat) (T : List Row) : List Ob :=
  .row [str name, .int .i64 k, .int .i64 s, .map (some 1)] 32 :: .mp (ents 2 0 T) T.length :: T.map fun t => .row (t.2.map str) 9
def tabK (u : Value) (K : RW) : List Nat :=
  match u with
  | .pointer (some ⟨i, _, _⟩) => match look i K.h with
    | some (.row [_, _, _, .map (some m)] _) => match look m K.h with
      | some (.mp es _) => i :: m :: es.map fun e => match e.val with
        | .slice (some ⟨j, _, _⟩) _ _ => j
        | _ => 0
      | _ => []
    | _ => []
  | _ => []
end Loc
end Go.Proofs.YtkhmbphcjacgnaaGreatDoor
