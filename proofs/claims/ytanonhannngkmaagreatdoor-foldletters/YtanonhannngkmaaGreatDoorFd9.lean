/-
  fold: the law's Small.
-/
import Derived.Test.YtanonhannngkmaaGreatDoorGz
namespace Go.Proofs.YtanonhannngkmaaGreatDoor
open Go Go.RowKit
namespace Fld
def greats : List (List UInt8) := gs.map fun p => enc p.1
def smalls : List (List UInt8) := gs.map fun p => enc p.2
def okR (x : List UInt8) : Bool := Nat.beq (step x) x.length && !x.isEmpty
theorem okR_vr {x : List UInt8} (h : okR x = true) : Vr x := by
  unfold okR at h
  simp only [Bool.and_eq_true] at h
  exact ⟨fun h0 => (by rw [h0] at h; cases h.2), Nat.eq_of_beq_eq_true h.1⟩
theorem gs_ok : (gs.all fun p => okR (enc p.1) && okR (enc p.2) && Nat.beq (rv (enc p.1)) p.1 && Nat.beq (rv (enc p.2)) p.2 && (match lk p.1 with | some v => Nat.beq v p.2 | none => false) && (lk p.2).isNone) = true := by kernel_rfl
theorem gs_of {p : Nat × Nat} (h : p ∈ gs) : Vr (enc p.1) ∧ Vr (enc p.2) ∧ rv (enc p.1) = p.1 ∧ rv (enc p.2) = p.2 ∧ lk p.1 = some p.2 ∧ lk p.2 = none := by
  have := List.all_eq_true.1 gs_ok p h
  simp only [Bool.and_eq_true] at this
  obtain ⟨⟨⟨⟨⟨h1, h2⟩, h3⟩, h4⟩, h5⟩, h6⟩ := this
  refine ⟨okR_vr h1, okR_vr h2, Nat.eq_of_beq_eq_true h3, Nat.eq_of_beq_eq_true h4, ?_, by simpa using h6⟩
  split at h5
  · rename_i v hv; rw [hv, Nat.eq_of_beq_eq_true h5]
  · cases h5
theorem greats_vr : ∀ x ∈ greats, Vr x := fun x hx => by
  obtain ⟨p, hp, rfl⟩ := List.mem_map.1 hx
  exact (gs_of hp).1
theorem smalls_vr : ∀ x ∈ smalls, Vr x := fun x hx => by
  obtain ⟨p, hp, rfl⟩ := List.mem_map.1 hx
  exact (gs_of hp).2.1
theorem idx_at {s : ByteArray} : ∀ {l : List ByteArray} {j i : Nat}, Tbl.idx s l j = some i → j ≤ i ∧ l[i - j]? = some s
  | [], j, i, h => by cases h
  | t :: l, j, i, h => by
    unfold Tbl.idx at h
    cases hd : decide (s = t) with
    | true =>
      rw [hd] at h
      obtain rfl := Option.some.inj h
      rw [Nat.sub_self, of_decide_eq_true hd]
      exact ⟨Nat.le_refl _, rfl⟩
    | false =>
      rw [hd] at h
      obtain ⟨h1, h2⟩ := idx_at h
      refine ⟨by omega, ?_⟩
      rw [show i - j = (i - (j + 1)) + 1 by omega]
      exact h2
theorem idx_no {s : ByteArray} : ∀ {l : List ByteArray} {j : Nat}, Tbl.idx s l j = none → ∀ t ∈ l, t ≠ s
  | [], _, _, t, ht => by cases ht
  | u :: l, j, h, t, ht => by
    unfold Tbl.idx at h
    cases hd : decide (s = u) with
    | true => rw [hd] at h; cases h
    | false =>
      rw [hd] at h
      rcases List.mem_cons.1 ht with rfl | ht
      · exact fun he => of_decide_eq_false hd he.symm
      · exact idx_no h t ht
/-- where a rune stands among the great letters, and what stands there among the small ones -/
theorem find {x : List UInt8} (hx : Vr x) : (Tbl.idx ⟨⟨x⟩⟩ (greats.map fun x => ⟨⟨x⟩⟩) 0 = none ∧ lowB x = x) ∨ ∃ i, Tbl.idx ⟨⟨x⟩⟩ (greats.map fun x => ⟨⟨x⟩⟩) 0 = some i ∧ i < 53 ∧ smalls[i]? = some (lowB x) := by
  cases hi : Tbl.idx ⟨⟨x⟩⟩ (greats.map fun x => ⟨⟨x⟩⟩) 0 with
  | none =>
    left
    refine ⟨rfl, ?_⟩
    unfold lowB
    cases hk : lk (rv x) with
    | none => rfl
    | some v =>
      exfalso
      have hm := lkIn_some hk
      have hl : x.length ≤ 2 := by
        rcases rv_len hx with ⟨e, _⟩ | ⟨e, _⟩ | ⟨_, q⟩
        · omega
        · omega
        · have := (gs_at hk).2.1; omega
      have he := enc_rv hx hl
      refine idx_no hi ⟨⟨x⟩⟩ ?_ rfl
      refine List.mem_map.2 ⟨x, ?_, rfl⟩
      exact List.mem_map.2 ⟨(rv x, v), hm, he⟩
  | some i =>
    right
    obtain ⟨_, h2⟩ := idx_at hi
    rw [Nat.sub_zero, List.getElem?_map] at h2
    cases hg : greats[i]? with
    | none => rw [hg] at h2; cases h2
    | some y =>
      rw [hg] at h2
      have hyx : y = x := by
        have := Option.some.inj h2
        have := congrArg (fun b : ByteArray => b.data.toList) this
        exact this
      subst hyx
      unfold greats at hg
      rw [List.getElem?_map] at hg
      cases hp : gs[i]? with
      | none => rw [hp] at hg; cases hg
      | some p =>
        rw [hp] at hg
        have hy : enc p.1 = y := Option.some.inj hg
        obtain ⟨_, _, h5, _, h6, _⟩ := gs_of (List.mem_of_getElem? hp)
        have hlen : gs.length = 53 := by kernel_rfl
        refine ⟨i, rfl, by rw [← hlen]; exact (List.getElem?_eq_some_iff.1 hp).1, ?_⟩
        unfold smalls lowB
        rw [List.getElem?_map, hp, ← hy, h5, h6]
        rfl
end Fld
noncomputable def lsB : Code := inLoop (loopOf Tryz.prog 11 0)
def lsM (o : Nat) : RW := ⟨67, [(66, .opq o), (65, .own (strs Fld.smalls) 9 1), (64, .own (strs Fld.greats) 9 1)]⟩
def lsS : St := ⟨fr 52 [(3, .slice (some ⟨64, 0, none⟩) 53 big), (5, .slice (some ⟨65, 0, none⟩) 53 big), (9, Lt 1), (26, .complex .f64 66 0), (27, Lt 3), (28, Lt 2)], lsM 0, []⟩
def lsE : St := ⟨fr 52 [(9, Lt 1)], ⟨67, []⟩, []⟩
noncomputable def lsC : CE := ⟨.loop lsB, ⟨[(.string ⟨#[]⟩, Lt 1), (.int .i64 0, Lt 2), (Lt 3, Lt 3)], [(0, 0)], [], [], [(0, 0)], []⟩, 67, [], lsS, .exit 0, lsE⟩
/-- the letters: 1 what is so far, 2 which, 3 how many, 4 the rune, 5 its place, 6 its small one, 7 what is then, 8 the next one -/
def lsL0 : List OE := [binE .lss (Lt 2) (Lt 3) (.bool true), iaV 28 66 0 (Lt 2) 0, binE .add (Lt 2) (.int .i64 (1 : Nat)) (Lt 8), binT .add 9 9 (Lt 1) (Lt 6) (Lt 7)]
def lsL1 : List OE := [binE .geq (Lt 5) (.int .i64 (0 : Nat)) (.bool true), binE .lss (Lt 5) (.int .i64 (53 : Nat)) (.bool true), iaO 28 65 53 (Lt 5) 1] ++ lsL0
def lsN : Tra := ⟨[(Lt 7, Lt 1), (Lt 8, Lt 2), (Lt 3, Lt 3)], [(0, 0)], [], [], [(0, 0)], []⟩
noncomputable def lsRun (O : List OE) (M : List ME) (P : List PE) (y : Exit) (T : Tra) (s' : St) : Bool := @comes (orcG 64 64 O M []) Tryz.prog (prL P) 64 64 120 lsB lsS y T 67 [] s'
def lsP (y r : Value) : List PE := [(17, ixO Fld.greats y r)]
theorem ls_hit : lsRun lsL1 [ldC 9 0 0 (Lt 4), ldO 9 1 Fld.smalls (Lt 6)] (lsP (Lt 4) (Lt 5)) .normal lsN lsS = true := by kernel_rfl
theorem ls_miss : lsRun lsL0 [ldC 9 0 0 (Lt 6)] (lsP (Lt 6) (.int .i64 (-1))) .normal lsN lsS = true := by kernel_rfl
theorem ls_end : lsRun [binE .lss (Lt 2) (Lt 3) (.bool false)] [] [] (.exit 0) (traL [(Lt 1, Lt 1)] [] []) lsE = true := by kernel_rfl
def lsPr (x : Prim) : Prim := orP (ownP 12 [.string ⟨⟨List.flatten Fld.greats⟩⟩] Fld.greats 9 fun v => .tuple ⟨[v, .int .i64 (-1)]⟩) (orP (ownP 12 [.string ⟨⟨List.flatten Fld.smalls⟩⟩] Fld.smalls 9 fun v => .tuple ⟨[v, .int .i64 (-1)]⟩) x)
def lsList : Prim := newP 12 [Lt 0] (fun n => .tuple ⟨[.complex .f64 n 0, .int .i64 (-1)]⟩) 0
def lsNone : Prim := prL [(12, patP [([Lt 0], .tuple ⟨[.slice none 0 0, .int .i64 (-1)]⟩)])]
theorem ls_all : SymP [lenC 28 0 (Lt 3)] [] [lsC] (lsPr lsList) 120 11 [Lt 0] (Lt 1) := by delta SymP; show _ = _; kernel_rfl
theorem ls_nil : SymP [] [] [] (lsPr lsNone) 120 11 [Lt 0] (.string ⟨#[]⟩) := by delta SymP; show _ = _; kernel_rfl
end Go.Proofs.YtanonhannngkmaaGreatDoor
