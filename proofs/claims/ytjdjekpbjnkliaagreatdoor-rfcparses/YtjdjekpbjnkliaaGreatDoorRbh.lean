/-
  The law's own value, at any of the eight parts.
-/
import Derived.Test.YtjdjekpbjnkliaaGreatDoorRbe
import Derived.Test.YtjdjekpbjnkliaaGreatDoorRbb
import Derived.Test.YtjdjekpbjnkliaaGreatDoorRg6
import Derived.Maps.AppendAt
namespace Go.Proofs.YtjdjekpbjnkliaaGreatDoor
open Go.RowKit
def Off (t : Option Nat) (A : Option Addr) : Prop := ∀ ad, A = some ad → some ad.block ≠ t
def RuC (w : World) (rb lo : Nat) (r : Rfc.Ru) (q : Bool) (t : Option Nat) : Prop := ∃ A1 A2 A3 A4 c1 c2 c3 c4, Blk w rb 28 #[.int .i64 r.f, .int .i64 r.iv, .int .i64 r.c, .int .i64 r.u, .slice A1 r.M.length c1, .slice A2 r.D.length c2, .slice A3 r.K.length c3, .slice A4 r.P.length c4] ∧ InI w lo A1 r.M ∧ InI w lo A2 r.D ∧ InN w lo A3 r.K ∧ InI w lo A4 r.P ∧ (q = false → A3 = none ∧ c3 = 0 ∧ r.K = []) ∧ Off t A1 ∧ Off t A2 ∧ Off t A3 ∧ Off t A4
theorem RuC.b {w : World} {rb lo : Nat} {r : Rfc.Ru} {q : Bool} {t : Option Nat} (h : RuC w rb lo r q t) : RuB w rb lo r := by
  obtain ⟨A1, A2, A3, A4, c1, c2, c3, c4, hB, i1, i2, i3, i4, -⟩ := h
  exact ⟨A1, A2, A3, A4, c1, c2, c3, c4, hB, i1, i2, i3, i4⟩
theorem RuC.exc {w w' : World} {rb lo x : Nat} {r : Rfc.Ru} {q : Bool} {t : Option Nat} (h : RuC w rb lo r q t) (e : Exc w.heap.size x w w') (hx : x < lo) (hr : rb ≠ x) : RuC w' rb lo r q t := by
  obtain ⟨A1, A2, A3, A4, c1, c2, c3, c4, hB, i1, i2, i3, i4, hn⟩ := h
  exact ⟨A1, A2, A3, A4, c1, c2, c3, c4, hB.exc e hB.lt hr, i1.exc e hx, i2.exc e hx, i3.exc e hx, i4.exc e hx, hn⟩
theorem Off.i {w w' : World} {t : Option Nat} {A : Option Addr} {L : List Int} (h : InI w' w.heap.size A L) (ht : ∀ k, t = some k → k < w.heap.size) : Off t A := by
  rintro ad rfl e
  obtain ⟨k, -⟩ | ⟨b, k, hb, -⟩ := h.2
  · cases k
  · obtain rfl := Option.some.inj k
    have := ht _ e.symm
    simp at this
    omega
theorem Off.n {w w' : World} {t : Option Nat} {A : Option Addr} {L : List (Int × Int)} (h : InN w' w.heap.size A L) (ht : ∀ k, t = some k → k < w.heap.size) : Off t A := by
  rintro ad rfl e
  obtain ⟨k, -⟩ | ⟨b, k, hb, -⟩ := h.2
  · cases k
  · obtain rfl := Option.some.inj k
    have := ht _ e.symm
    simp at this
    omega
theorem lval_any (p : Nat) (hp : p < 8) (rb lo : Nat) (r : Rfc.Ru) (q : Bool) (s : List UInt8) (w : World) (hT : Tabs3 w) (hTb : ∀ wx, Exc w.heap.size rb w wx → Tabs3 wx) (hl : s.length ≤ 100000) (t : Option Nat) (ht : ∀ k, t = some k → k < w.heap.size) (hR : RuC w rb lo r q t) (hq : p = 6 → q = false) (hlo : rb < lo ∧ lo ≤ w.heap.size) :
    Calls Tryz.prog 23 #[.pointer (some ⟨rb, 0, none⟩), .string ⟨(Rfc.nm p).toArray⟩, .string ⟨s.toArray⟩] w fun e w' => ∃ v, e = .returned v ∧ (v = .bool (Rfc.setF p s r).isSome ∧ (∀ r', Rfc.setF p s r = some r' → RuC w' rb lo r' (q || p == 6) t) ∧ Exc w.heap.size rb w w') := by
  obtain ⟨A1, A2, A3, A4, c1, c2, c3, c4, hB, i1, i2, i3, i4, hn, o1, o2, o3, o4⟩ := hR
  match p, hp with
  | 0, _ =>
    refine (lv_0 rb _ rfl s w hT hB).mono ?_
    rintro e w' ⟨v, rfl, rfl, B2, ee⟩
    refine ⟨_, rfl, ?_, fun r' hr => ?_, ee⟩
    · show Value.bool (Rfc.pfreq s).isSome = .bool (Option.map _ (Rfc.pfreq s)).isSome
      rw [Option.isSome_map]
    · obtain ⟨n, hy, rfl⟩ := Option.map_eq_some_iff.1 (show Option.map _ (Rfc.pfreq s) = some r' from hr)
      exact ⟨A1, A2, A3, A4, c1, c2, c3, c4, B2 n hy, i1.exc ee hlo.1, i2.exc ee hlo.1, i3.exc ee hlo.1, i4.exc ee hlo.1, fun h => hn (by cases q; rfl; simp at h), o1, o2, o3, o4⟩
  | 1, _ =>
    refine (lv_1 rb _ rfl s w hB).mono ?_
    rintro e w' ⟨v, rfl, rfl, B2, ee⟩
    refine ⟨_, rfl, ?_, fun r' hr => ?_, ee⟩
    · show Value.bool (Rfc.pnum s).isSome = .bool (Option.map _ (Rfc.pnum s)).isSome
      rw [Option.isSome_map]
    · obtain ⟨n, hy, rfl⟩ := Option.map_eq_some_iff.1 (show Option.map _ (Rfc.pnum s) = some r' from hr)
      exact ⟨A1, A2, A3, A4, c1, c2, c3, c4, B2 n hy, i1.exc ee hlo.1, i2.exc ee hlo.1, i3.exc ee hlo.1, i4.exc ee hlo.1, fun h => hn (by cases q; rfl; simp at h), o1, o2, o3, o4⟩
  | 2, _ =>
    refine (lv_2 rb _ rfl s w hB).mono ?_
    rintro e w' ⟨v, rfl, rfl, B2, ee⟩
    refine ⟨_, rfl, ?_, fun r' hr => ?_, ee⟩
    · show Value.bool (Rfc.pnz s).isSome = .bool (Option.map _ (Rfc.pnz s)).isSome
      rw [Option.isSome_map]
    · obtain ⟨n, hy, rfl⟩ := Option.map_eq_some_iff.1 (show Option.map _ (Rfc.pnz s) = some r' from hr)
      exact ⟨A1, A2, A3, A4, c1, c2, c3, c4, B2 n hy, i1.exc ee hlo.1, i2.exc ee hlo.1, i3.exc ee hlo.1, i4.exc ee hlo.1, fun h => hn (by cases q; rfl; simp at h), o1, o2, o3, o4⟩
  | 3, _ =>
    refine (lv_3 rb _ rfl s w hl hB).mono ?_
    rintro e w' ⟨v, rfl, rfl, B2, ee⟩
    refine ⟨_, rfl, ?_, fun r' hr => ?_, ee⟩
    · show Value.bool (Rfc.pday s).isSome = .bool (Option.map _ (Rfc.pday s)).isSome
      rw [Option.isSome_map]
    · obtain ⟨n, hy, rfl⟩ := Option.map_eq_some_iff.1 (show Option.map _ (Rfc.pday s) = some r' from hr)
      exact ⟨A1, A2, A3, A4, c1, c2, c3, c4, B2 n hy, i1.exc ee hlo.1, i2.exc ee hlo.1, i3.exc ee hlo.1, i4.exc ee hlo.1, fun h => hn (by cases q; rfl; simp at h), o1, o2, o3, o4⟩
  | 4, _ =>
    refine (lv_4 rb _ rfl s w hT.t hl hB).mono ?_
    rintro e w' ⟨v, rfl, rfl, B2, ee⟩
    refine ⟨_, rfl, ?_, fun r' hr => ?_, ee⟩
    · show Value.bool (Rfc.plistI s).isSome = .bool (Option.map _ (Rfc.plistI s)).isSome
      rw [Option.isSome_map]
    · obtain ⟨n, hy, rfl⟩ := Option.map_eq_some_iff.1 (show Option.map _ (Rfc.plistI s) = some r' from hr)
      obtain ⟨A, cap, hO, B3⟩ := B2 n hy
      exact ⟨A, A2, A3, A4, cap, c2, c3, c4, B3, hO.inn' hlo.2, i2.exc ee hlo.1, i3.exc ee hlo.1, i4.exc ee hlo.1, fun h => hn (by cases q; rfl; simp at h), Off.i (hO.inn' (Nat.le_refl _)) ht, o2, o3, o4⟩
  | 5, _ =>
    refine (lv_5 rb _ rfl s w hT.t hl hB).mono ?_
    rintro e w' ⟨v, rfl, rfl, B2, ee⟩
    refine ⟨_, rfl, ?_, fun r' hr => ?_, ee⟩
    · show Value.bool (Rfc.plistI s).isSome = .bool (Option.map _ (Rfc.plistI s)).isSome
      rw [Option.isSome_map]
    · obtain ⟨n, hy, rfl⟩ := Option.map_eq_some_iff.1 (show Option.map _ (Rfc.plistI s) = some r' from hr)
      obtain ⟨A, cap, hO, B3⟩ := B2 n hy
      exact ⟨A1, A, A3, A4, c1, cap, c3, c4, B3, i1.exc ee hlo.1, hO.inn' hlo.2, i3.exc ee hlo.1, i4.exc ee hlo.1, fun h => hn (by cases q; rfl; simp at h), o1, Off.i (hO.inn' (Nat.le_refl _)) ht, o3, o4⟩
  | 6, _ =>
    refine (lv_6 rb _ rfl s w hT hTb hl (by obtain ⟨rfl, rfl, e⟩ := hn (hq rfl); simp [e]) hB).mono ?_
    rintro e w' ⟨v, rfl, rfl, B2, ee⟩
    refine ⟨_, rfl, ?_, fun r' hr => ?_, ee⟩
    · show Value.bool (Rfc.plistN s).isSome = .bool (Option.map _ (Rfc.plistN s)).isSome
      rw [Option.isSome_map]
    · obtain ⟨n, hy, rfl⟩ := Option.map_eq_some_iff.1 (show Option.map _ (Rfc.plistN s) = some r' from hr)
      obtain ⟨A, cap, hO, B3⟩ := B2 n hy
      exact ⟨A1, A2, A, A4, c1, c2, cap, c4, B3, i1.exc ee hlo.1, i2.exc ee hlo.1, hO.inn' hlo.2, i4.exc ee hlo.1, fun h => by cases q <;> simp at h, o1, o2, Off.n (hO.inn' (Nat.le_refl _)) ht, o4⟩
  | 7, _ =>
    refine (lv_7 rb _ rfl s w hT.t hl hB).mono ?_
    rintro e w' ⟨v, rfl, rfl, B2, ee⟩
    refine ⟨_, rfl, ?_, fun r' hr => ?_, ee⟩
    · show Value.bool (Rfc.plistI s).isSome = .bool (Option.map _ (Rfc.plistI s)).isSome
      rw [Option.isSome_map]
    · obtain ⟨n, hy, rfl⟩ := Option.map_eq_some_iff.1 (show Option.map _ (Rfc.plistI s) = some r' from hr)
      obtain ⟨A, cap, hO, B3⟩ := B2 n hy
      exact ⟨A1, A2, A3, A, c1, c2, c3, cap, B3, i1.exc ee hlo.1, i2.exc ee hlo.1, i3.exc ee hlo.1, hO.inn' hlo.2, fun h => hn (by cases q; rfl; simp at h), o1, o2, o3, Off.i (hO.inn' (Nat.le_refl _)) ht⟩
namespace Rfc
theorem cut_no {x : List UInt8} (h : Lib.indexByte x 61 < 0) : Lib.cut x [61] = (x, [], false) := by
  unfold Lib.cut
  rw [Lib.index_one, if_neg (by omega)]
theorem cut_yes {x : List UInt8} (h : ¬ Lib.indexByte x 61 < 0) : Lib.cut x [61] = (x.take (Lib.indexByte x 61).toNat, x.drop ((Lib.indexByte x 61).toNat + 1), true) := by
  unfold Lib.cut
  rw [Lib.index_one, if_pos (by omega)]
  rfl
theorem ib_lt {x : List UInt8} (h : ¬ Lib.indexByte x 61 < 0) : (Lib.indexByte x 61).toNat < x.length := by
  have := Lib.index_room x [61] (by rw [Lib.index_one]; omega)
  rw [Lib.index_one] at this
  simp at this
  omega
def nms : List (List UInt8) := [nm 0, nm 1, nm 2, nm 3, nm 4, nm 5, nm 6, nm 7]
theorem part_of {s : List UInt8} {p : Nat} (h : part s = some p) : p < 8 ∧ nm p = s := by
  have : ∀ (k i : Nat), idx nm s i k = some p → p < i + k ∧ nm p = s := by
    intro k
    induction k with
    | zero => intro i h; cases h
    | succ k ih =>
      intro i h
      unfold idx at h
      split at h
      · rename_i e; obtain rfl := Option.some.inj h; exact ⟨by omega, e⟩
      · obtain ⟨h1, h2⟩ := ih (i + 1) h; exact ⟨by omega, h2⟩
  exact ⟨by have := (this 8 0 h).1; omega, (this 8 0 h).2⟩
theorem part_none {s : List UInt8} (h : part s = none) : s ∉ nms := by
  have : ∀ (k i : Nat), idx nm s i k = none → ∀ p, i ≤ p → p < i + k → nm p ≠ s := by
    intro k
    induction k with
    | zero => intro i h p h1 h2; omega
    | succ k ih =>
      intro i h p h1 h2
      unfold idx at h
      split at h
      · cases h
      · rename_i e
        by_cases hp : p = i
        · rw [hp]; exact e
        · exact ih (i + 1) h p (by omega) (by omega)
  intro hm
  have k := this 8 0 h
  simp only [nms, List.mem_cons, List.not_mem_nil, or_false] at hm
  rcases hm with e | e | e | e | e | e | e | e
  · exact k 0 (by omega) (by omega) e.symm
  · exact k 1 (by omega) (by omega) e.symm
  · exact k 2 (by omega) (by omega) e.symm
  · exact k 3 (by omega) (by omega) e.symm
  · exact k 4 (by omega) (by omega) e.symm
  · exact k 5 (by omega) (by omega) e.symm
  · exact k 6 (by omega) (by omega) e.symm
  · exact k 7 (by omega) (by omega) e.symm
theorem part_mem {s : List UInt8} {p : Nat} (h : part s = some p) : s ∈ nms := by
  obtain ⟨h1, rfl⟩ := part_of h
  have : ∀ q, q < 8 → nm q ∈ nms := by decide
  exact this p h1
def Seen (S : List (List UInt8)) (g : List Bool) : Prop := ∀ p, p < 8 → (nm p ∈ S ↔ g.getD p false = true)
theorem Seen.nil : Seen [] (List.replicate 8 false) := by
  intro p hp
  have : (List.replicate 8 false).getD p false = false := by
    have : ∀ p, p < 8 → (List.replicate 8 false).getD p false = false := by decide
    exact this p hp
  rw [this]
  simp
theorem Seen.add {S : List (List UInt8)} {g : List Bool} {p : Nat} (h : Seen S g) (hg : g.length = 8) (hp : p < 8) : Seen (S ++ [nm p]) (g.set p true) := by
  intro q hq
  rw [List.mem_append, List.mem_singleton]
  by_cases e : p = q
  · subst e
    simp [hg, hp]
  · have : (g.set p true).getD q false = g.getD q false := by
      simp [e]
    rw [this, ← h q hq]
    constructor
    · rintro (k | k)
      · exact k
      · exact absurd (nm_inj (Nat.le_of_lt_succ hq) (Nat.le_of_lt_succ hp) k).symm e
    · exact .inl
theorem getD6 {g : List Bool} {p : Nat} (hg : g.length = 8) (hp : p < 8) : (g.set p true).getD 6 false = (g.getD 6 false || p == 6) := by
  by_cases e : p = 6
  · subst e
    simp [hg]
  · have e' : (p == 6) = false := by simp [e]
    rw [e', Bool.or_false]
    simp [e]
end Rfc
theorem append_str_c {w : World} {base : Nat} {v : Value} {L : List (List UInt8)} {x : List UInt8} {g c : Nat} (h : OwnS w base v L) (hx : w.cell? ⟨g, 0, none⟩ = some (.string ⟨x.toArray⟩)) (hl : L.length ≤ 1000000) (hB : base ≤ w.heap.size) :
    ∃ v' w', (Builtin.append_ #[42, 42] 42 #[v, .slice (some ⟨g, 0, none⟩) 1 c]).run Tryz.prog w = .ok v' w' ∧ OwnS w' base v' (L ++ [x]) ∧ Below base w w' ∧ w.grownBy w' v.ownBlock ∧ (v'.ownBlock = v.ownBlock ∨ v'.ownBlock = some w.heap.size) := by
  obtain ⟨i, hi, hz, hs, hb⟩ := info_of (T := 9) (z := .string ⟨#[]⟩) (n := 1) (b := 16) (by kernel_rfl) (by kernel_rfl) (by kernel_rfl)
  obtain ⟨v', w', hr, ho, hg, -, hv⟩ := run_append_own_at (P := Tryz.prog) w base 42 42 9 i (.string ⟨#[]⟩) 1 16 Tryz.underlying42 hi hz hs hb rfl (by decide) v L.length _ h ⟨g, 0, none⟩ 1 c [.string ⟨x.toArray⟩] rfl
    (fun j u hu => by
      cases j with
      | zero => obtain rfl : Value.string ⟨x.toArray⟩ = u := by simpa using hu
                exact hx
      | succ j => simp at hu) (by simp [Value.oneCell']) (by unfold maxLen; omega) (by omega) hB
  refine ⟨v', w', hr, ?_, (exc_grown (b := base) hg (fun g' hg' => (World.ownsRow.lt h g' hg').1) hB).below (Nat.le_refl _), hg, hv⟩
  unfold OwnS
  simpa using ho
theorem InI.grown {w w' : World} {lo : Nat} {A : Option Addr} {L : List Int} {t t' : Option Nat} (h : InI w lo A L) (o : Off t A) (g : w.grownBy w' t) (ht : t' = t ∨ t' = some w.heap.size) : InI w' lo A L ∧ Off t' A := by
  obtain ⟨hl, ⟨rfl, rfl⟩ | ⟨b, rfl, h1, h2, h3⟩⟩ := h
  · exact ⟨InI.nil _ _, fun ad e => by cases e⟩
  · have hb := g.block b h2 (o _ rfl)
    refine ⟨⟨hl, .inr ⟨b, rfl, h1, Nat.lt_of_lt_of_le h2 g.size, fun j hj => ?_⟩⟩, ?_⟩
    · rw [World.cell?_of_block hb]
      exact h3 j hj
    · rintro ad e
      obtain rfl := Option.some.inj e
      rcases ht with rfl | rfl
      · exact o _ rfl
      · simp
        omega
theorem InN.grown {w w' : World} {lo : Nat} {A : Option Addr} {L : List (Int × Int)} {t t' : Option Nat} (h : InN w lo A L) (o : Off t A) (g : w.grownBy w' t) (ht : t' = t ∨ t' = some w.heap.size) : InN w' lo A L ∧ Off t' A := by
  obtain ⟨hl, ⟨rfl, rfl⟩ | ⟨b, rfl, h1, h2, h3⟩⟩ := h
  · exact ⟨InN.nil _ _, fun ad e => by cases e⟩
  · have hb := g.block b h2 (o _ rfl)
    refine ⟨⟨hl, .inr ⟨b, rfl, h1, Nat.lt_of_lt_of_le h2 g.size, fun j hj => ?_⟩⟩, ?_⟩
    · have hc : ∀ j, w'.cell? ⟨b, j, none⟩ = w.cell? ⟨b, j, none⟩ := fun j => World.cell?_of_block hb
      rw [hc, hc]
      exact h3 j hj
    · rintro ad e
      obtain rfl := Option.some.inj e
      rcases ht with rfl | rfl
      · exact o _ rfl
      · simp
        omega
theorem Blk.grown {w w' : World} {b : Nat} {T : TypeId} {cs : Array Value} {t : Option Nat} (h : Blk w b T cs) (g : w.grownBy w' t) (hb : some b ≠ t) : Blk w' b T cs := by
  have e := g.block b h.lt hb
  unfold Blk at h ⊢
  rw [e]
  exact h
theorem RuC.grown {w w' : World} {rb lo : Nat} {r : Rfc.Ru} {q : Bool} {t t' : Option Nat} (h : RuC w rb lo r q t) (g : w.grownBy w' t) (ht : t' = t ∨ t' = some w.heap.size) (hrb : some rb ≠ t) : RuC w' rb lo r q t' := by
  obtain ⟨A1, A2, A3, A4, c1, c2, c3, c4, hB, i1, i2, i3, i4, hn, o1, o2, o3, o4⟩ := h
  obtain ⟨i1, o1⟩ := i1.grown o1 g ht
  obtain ⟨i2, o2⟩ := i2.grown o2 g ht
  obtain ⟨i3, o3⟩ := i3.grown o3 g ht
  obtain ⟨i4, o4⟩ := i4.grown o4 g ht
  exact ⟨A1, A2, A3, A4, c1, c2, c3, c4, hB.grown g hrb, i1, i2, i3, i4, hn, o1, o2, o3, o4⟩
theorem c_lValue {w : World} {ρ : Operand → Value} {o : Oper} {x y z : Operand} {v u r : Value} (ho : o.op = .call ⟨.value (.func 23), #[x, y, z], #[58, 9, 9]⟩) (hf : ρ (.func 23) = .func (.func 23) #[] #[]) (hx : ρ x = v) (hy : ρ y = u) (hz : ρ z = r) : (execOp ρ o).run Tryz.prog w = .ok (.enter 23 #[v, u, r]) w := by
  simp only [execOp, ho]
  go_simp
noncomputable def pr15 : Array Oper := (Tryz.f7.body.bind (regOf 15)).getD #[]
set_option maxRecDepth 100000 in
set_option maxHeartbeats 1000000 in
theorem regP15 (a : Act) (w : World) (Q : Exit → Act → World → Prop) (hQ : Blind Q) (rb k : Nat) (xx : List UInt8) (b : Bool) (C : World → Prop) (v2 v4 v6 v18 v19 v20 : Value) (df : List _) (hd : a.defers = df) (hs : a.tmps.size = 71) (h5 : a.tmps.getD 5 undef = .pointer (some ⟨rb, 0, none⟩)) (h8 : a.tmps.getD 8 undef = .string ⟨(xx).toArray⟩) (h9 : a.tmps.getD 9 undef = .int .i64 (k : Nat)) (h2 : a.tmps.getD 2 undef = v2) (h4 : a.tmps.getD 4 undef = v4) (h6 : a.tmps.getD 6 undef = v6) (h18 : a.tmps.getD 18 undef = v18) (h19 : a.tmps.getD 19 undef = v19) (h20 : a.tmps.getD 20 undef = v20)
    (hk : k < xx.length) (hl : xx.length ≤ 100000)
    (hcall : ∀ u, Below w.heap.size w u → Calls Tryz.prog 23 #[.pointer (some ⟨rb, 0, none⟩), .string ⟨(xx.take k).toArray⟩, .string ⟨(xx.drop (k + 1)).toArray⟩] u fun e w' => ∃ v, e = .returned v ∧ (v = .bool b ∧ C w' ∧ Exc u.heap.size rb u w'))
    (hR : ∀ (a' : Act) (w' : World), a'.tmps.size = 71 → a'.defers = df → a'.tmps.getD 5 undef = .pointer (some ⟨rb, 0, none⟩) → a'.tmps.getD 8 undef = .string ⟨(xx).toArray⟩ → a'.tmps.getD 9 undef = .int .i64 (k : Nat) → a'.tmps.getD 2 undef = v2 → a'.tmps.getD 4 undef = v4 → a'.tmps.getD 6 undef = v6 → a'.tmps.getD 18 undef = v18 → a'.tmps.getD 19 undef = v19 → a'.tmps.getD 20 undef = v20 → a'.tmps.getD 57 undef = .bool (!b) → C w' → Exc w.heap.size rb w w' → Q .normal a' w') :
    (Code.region 15 pr15 true).wp Tryz.prog Q a w := by
  conv => arg 2; arg 2; whnf
  refine wp_region_held_drew (S := fun w' => Exc w.heap.size rb w w') (by kernel_rfl) (Exc.of (below_drew (Below.refl _ _))) (fun hH => ?_)
  obtain ⟨u0, hu⟩ : ∃ u0, u0 = w.drew := ⟨_, rfl⟩
  have hB0 : Below w.heap.size w u0 := by rw [hu]; exact below_drew (Below.refl _ _)
  rw [← hu] at hH ⊢
  clear hu
  have hz0 := hH.size
  refine heldL 0 49 (v := .string ⟨(xx).toArray⟩) hQ (by kernel_rfl) (frZ hs) (by kernel_rfl) (by kernel_rfl) (by kernel_rfl) hH ?z1 ?z2
  case z1 => (intro o ho; obtain rfl := Option.some.inj ho; exact Or.inl ⟨rfl, fun w1 h1w => k_move rfl (ev_tmp h8)⟩)
  case z2 =>
  refine frN9 hs hd h2 h4 h6 h18 h19 h20 h5 h8 h9 ?_; clear hs hd h2 h4 h6 h18 h19 h20 h5 h8 h9; intro a hs hd h2 h4 h6 h18 h19 h20 h5 h8 h9 h49
  refine heldL 1 50 (v := .int .i64 (k : Nat)) hQ (by kernel_rfl) (frZ hs) (by kernel_rfl) (by kernel_rfl) (by kernel_rfl) hH ?z3 ?z4
  case z3 => (intro o ho; obtain rfl := Option.some.inj ho; exact Or.inl ⟨rfl, fun w1 h1w => k_move rfl (ev_tmp h9)⟩)
  case z4 =>
  refine frN10 hs hd h2 h4 h6 h18 h19 h20 h5 h8 h9 h49 ?_; clear hs hd h2 h4 h6 h18 h19 h20 h5 h8 h9 h49; intro a hs hd h2 h4 h6 h18 h19 h20 h5 h8 h9 h49 h50
  refine heldL 2 51 (v := .string ⟨(xx.take k).toArray⟩) hQ (by kernel_rfl) (frZ hs) (by kernel_rfl) (by kernel_rfl) (by kernel_rfl) hH ?z5 ?z6
  case z5 => (intro o ho; obtain rfl := Option.some.inj ho; exact Or.inl ⟨rfl, fun w1 h1w => k_takeS rfl (ev_tmp h49) (ev_tmp h50) (by omega)⟩)
  case z6 =>
  refine frN11 hs hd h2 h4 h6 h18 h19 h20 h5 h8 h9 h49 h50 ?_; clear hs hd h2 h4 h6 h18 h19 h20 h5 h8 h9 h49 h50; intro a hs hd h2 h4 h6 h18 h19 h20 h5 h8 h9 h49 h50 h51
  refine heldL 3 52 (v := .string ⟨(xx).toArray⟩) hQ (by kernel_rfl) (frZ hs) (by kernel_rfl) (by kernel_rfl) (by kernel_rfl) hH ?z7 ?z8
  case z7 => (intro o ho; obtain rfl := Option.some.inj ho; exact Or.inl ⟨rfl, fun w1 h1w => k_move rfl (ev_tmp h8)⟩)
  case z8 =>
  refine frN12 hs hd h2 h4 h6 h18 h19 h20 h5 h8 h9 h49 h50 h51 ?_; clear hs hd h2 h4 h6 h18 h19 h20 h5 h8 h9 h49 h50 h51; intro a hs hd h2 h4 h6 h18 h19 h20 h5 h8 h9 h49 h50 h51 h52
  refine heldL 4 53 (v := .int .i64 (k : Nat)) hQ (by kernel_rfl) (frZ hs) (by kernel_rfl) (by kernel_rfl) (by kernel_rfl) hH ?z9 ?z10
  case z9 => (intro o ho; obtain rfl := Option.some.inj ho; exact Or.inl ⟨rfl, fun w1 h1w => k_move rfl (ev_tmp h9)⟩)
  case z10 =>
  refine frN13 hs hd h2 h4 h6 h18 h19 h20 h5 h8 h9 h49 h50 h51 h52 ?_; clear hs hd h2 h4 h6 h18 h19 h20 h5 h8 h9 h49 h50 h51 h52; intro a hs hd h2 h4 h6 h18 h19 h20 h5 h8 h9 h49 h50 h51 h52 h53
  refine heldL 5 54 (v := .int .i64 (k + 1 : Nat)) hQ (by kernel_rfl) (frZ hs) (by kernel_rfl) (by kernel_rfl) (by kernel_rfl) hH ?z11 ?z12
  case z11 => (intro o ho; obtain rfl := Option.some.inj ho; exact Or.inl ⟨rfl, fun w1 h1w => o_addI rfl (ev_tmp h53) rfl (wrap_small (n := (k : Int) + 1) (by omega) (by omega))⟩)
  case z12 =>
  refine frN14 hs hd h2 h4 h6 h18 h19 h20 h5 h8 h9 h49 h50 h51 h52 h53 ?_; clear hs hd h2 h4 h6 h18 h19 h20 h5 h8 h9 h49 h50 h51 h52 h53; intro a hs hd h2 h4 h6 h18 h19 h20 h5 h8 h9 h49 h50 h51 h52 h53 h54
  refine heldL 6 55 (v := .string ⟨(xx.drop (k + 1)).toArray⟩) hQ (by kernel_rfl) (frZ hs) (by kernel_rfl) (by kernel_rfl) (by kernel_rfl) hH ?z13 ?z14
  case z13 => (intro o ho; obtain rfl := Option.some.inj ho; exact Or.inl ⟨rfl, fun w1 h1w => k_dropS rfl (ev_tmp h52) (ev_tmp h54) (by omega)⟩)
  case z14 =>
  refine frN15 hs hd h2 h4 h6 h18 h19 h20 h5 h8 h9 h49 h50 h51 h52 h53 h54 ?_; clear hs hd h2 h4 h6 h18 h19 h20 h5 h8 h9 h49 h50 h51 h52 h53 h54; intro a hs hd h2 h4 h6 h18 h19 h20 h5 h8 h9 h49 h50 h51 h52 h53 h54 h55
  have hc := hcall u0 hB0
  have hx := fun ops Q S fuel listed d a i h0 h1 h2 h3 => heldL_call (P := Tryz.prog) (ops := ops) (Q := Q) (S := S) (fuel := fuel) (listed := listed) (a := a) (w := u0) i d h0 h1 h2 h3 hc
  refine hx _ _ _ _ _ 56 _ 7 ?z15 ?z16 ?z17 ?z18 ?z19 ?z20
  case z15 => kernel_rfl
  case z16 => kernel_rfl
  case z17 => (rw [hs]; decide)
  case z18 => exact frY rfl (c_lValue rfl rfl (ev_tmp h5) (ev_tmp h51) (ev_tmp h55))
  case z19 => (rintro _ _ ⟨_, _, e⟩; exact hH.trans (e.mono hz0))
  case z20 =>
  clear hx hc
  rintro _ w6 a ⟨rfl, hC, e6⟩ F0
  replace hs := F0.z.trans hs
  replace hd := F0.e.trans hd
  replace h2 := (F0.n 2 (by decide)).trans h2
  replace h4 := (F0.n 4 (by decide)).trans h4
  replace h6 := (F0.n 6 (by decide)).trans h6
  replace h18 := (F0.n 18 (by decide)).trans h18
  replace h19 := (F0.n 19 (by decide)).trans h19
  replace h20 := (F0.n 20 (by decide)).trans h20
  replace h5 := (F0.n 5 (by decide)).trans h5
  replace h8 := (F0.n 8 (by decide)).trans h8
  replace h9 := (F0.n 9 (by decide)).trans h9
  replace h49 := (F0.n 49 (by decide)).trans h49
  replace h50 := (F0.n 50 (by decide)).trans h50
  replace h51 := (F0.n 51 (by decide)).trans h51
  replace h52 := (F0.n 52 (by decide)).trans h52
  replace h53 := (F0.n 53 (by decide)).trans h53
  replace h54 := (F0.n 54 (by decide)).trans h54
  replace h55 := (F0.n 55 (by decide)).trans h55
  have h56 := F0.s
  clear F0
  replace hH := hH.trans (e6.mono hz0)
  refine heldL 8 57 (v := .bool (!b)) hQ (by kernel_rfl) (frZ hs) (by kernel_rfl) (by kernel_rfl) (by kernel_rfl) hH ?z21 ?z22
  case z21 => (intro o ho; obtain rfl := Option.some.inj ho; exact Or.inl ⟨rfl, fun w1 h1w => o_not rfl (ev_tmp h56) rfl⟩)
  case z22 =>
  intro a F0
  replace hs := F0.z.trans hs
  replace hd := F0.e.trans hd
  replace h2 := (F0.n 2 (by decide)).trans h2
  replace h4 := (F0.n 4 (by decide)).trans h4
  replace h6 := (F0.n 6 (by decide)).trans h6
  replace h18 := (F0.n 18 (by decide)).trans h18
  replace h19 := (F0.n 19 (by decide)).trans h19
  replace h20 := (F0.n 20 (by decide)).trans h20
  replace h5 := (F0.n 5 (by decide)).trans h5
  replace h8 := (F0.n 8 (by decide)).trans h8
  replace h9 := (F0.n 9 (by decide)).trans h9
  replace h49 := (F0.n 49 (by decide)).trans h49
  replace h50 := (F0.n 50 (by decide)).trans h50
  replace h51 := (F0.n 51 (by decide)).trans h51
  replace h52 := (F0.n 52 (by decide)).trans h52
  replace h53 := (F0.n 53 (by decide)).trans h53
  replace h54 := (F0.n 54 (by decide)).trans h54
  replace h55 := (F0.n 55 (by decide)).trans h55
  replace h56 := (F0.n 56 (by decide)).trans h56
  have h57 := F0.s
  clear F0
  refine wpAnyH_done (by kernel_rfl) ?_ _
  exact hR a _ hs hd h5 h8 h9 h2 h4 h6 h18 h19 h20 h57 hC hH
end Go.Proofs.YtjdjekpbjnkliaaGreatDoor
