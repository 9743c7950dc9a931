/-
  Letters: a text's length, its bytes; errors.
-/
import Derived.Test.YtkcolbeemmnolaaGreatDoorEvT
import Derived.Test.YtkcolbeemmnolaaGreatDoorEvZ
import Derived.Test.YtkcolbeemmnolaaGreatDoorXs2
import Derived.Test.YtkcolbeemmnolaaGreatDoorXp4
namespace Go.Proofs.YtkcolbeemmnolaaGreatDoor
open Go Go.RowKit
def lenE (t : TypeId) (x r : Value) : OE :=
  ⟨fun o ρ => match o with
    | .call ⟨.builtin .len, ⟨[a]⟩, ⟨[t']⟩⟩ => Nat.beq t' t && pq (ρ a) x
    | _ => false, r⟩
theorem lenE_ok [Ltr] {t : TypeId} {x r : Value} (h : ∀ (o : Oper) (ρ : Operand → Value) (a : Operand) (E : Ren) (w : World), o.op = .call ⟨.builtin .len, #[a], #[t]⟩ → Rel E x (ρ a) → ∃ v, (execOp ρ o).run Tryz.prog w = .ok (.value v) w ∧ Rel E r v) : OEOk Tryz.prog (lenE t x r) := by
  intro o ρ ρ' E hr hf w
  simp only [lenE] at hf
  split at hf
  · rename_i a t' ho
    simp only [Bool.and_eq_true] at hf
    obtain ⟨h2, h4⟩ := hf
    rw [ho] at hr
    have ra := hr a (by simp [Op.operands, Call.operands])
    rw [pq_eq h4] at ra
    rw [Nat.eq_of_beq_eq_true h2] at ho
    obtain ⟨v, h6, h7⟩ := h o ρ' a E w ho ra
    exact ⟨v, h6, h7, fun c e => by rw [ho] at e; cases e⟩
  · cases hf
/-- a text's length -/
theorem l_str [Ltr] {i j : Nat} {t : List UInt8} (hi : Ltr.v i = some (.string ⟨⟨t⟩⟩)) (hj : Ltr.v j = some (.int .i64 t.length)) : OEOk Tryz.prog (lenE 9 (Lt i) (Lt j)) :=
  lenE_ok fun o ρ a E w ho ha => by
    have e1 := is_ltr hi E _ ha
    refine ⟨.int .i64 t.length, ?_, .ltr hj rfl⟩
    have e : ((⟨⟨t⟩⟩ : ByteArray).size : Int) = t.length := rfl
    rw [← e]
    simp only [execOp, ho]
    go_simp
def idxE (t : TypeId) (x y r : Value) : OE :=
  ⟨fun o ρ => match o with
    | .index t' a b => Nat.beq t' t && pq (ρ a) x && pq (ρ b) y
    | _ => false, r⟩
theorem idxE_ok [Ltr] {t : TypeId} {x y r : Value} (h : ∀ (o : Oper) (ρ : Operand → Value) (a b : Operand) (E : Ren) (w : World), o.op = .index t a b → Rel E x (ρ a) → Rel E y (ρ b) → ∃ v, (execOp ρ o).run Tryz.prog w = .ok (.value v) w ∧ Rel E r v) : OEOk Tryz.prog (idxE t x y r) := by
  intro o ρ ρ' E hr hf w
  simp only [idxE] at hf
  split at hf
  · rename_i t' a b ho
    simp only [Bool.and_eq_true] at hf
    obtain ⟨⟨h2, h4⟩, h5⟩ := hf
    rw [ho] at hr
    have ra := hr a (by simp [Op.operands])
    have rb := hr b (by simp [Op.operands])
    rw [pq_eq h4] at ra
    rw [pq_eq h5] at rb
    rw [Nat.eq_of_beq_eq_true h2] at ho
    obtain ⟨v, h6, h7⟩ := h o ρ' a b E w ho ra rb
    exact ⟨v, h6, h7, fun c e => by rw [ho] at e; cases e⟩
  · cases hf
/-- a text's byte -/
theorem i_str [Ltr] {i j k : Nat} {t : List UInt8} (hi : Ltr.v i = some (.string ⟨⟨t⟩⟩)) (hk : k < t.length) (hj : Ltr.v j = some (.int .u8 (t[k].toNat : Nat))) : OEOk Tryz.prog (idxE 9 (Lt i) (.int .i64 k) (Lt j)) :=
  idxE_ok fun o ρ a b E w ho ha hb => by
    have e1 := is_ltr hi E _ ha
    have e2 := is_flat rfl E _ hb
    refine ⟨.int .u8 (t[k].toNat : Nat), ?_, .ltr hj rfl⟩
    have hk' : k < (⟨⟨t⟩⟩ : ByteArray).size := hk
    have e : (⟨⟨t⟩⟩ : ByteArray)[k] = t[k] := rfl
    rw [← e]
    simp only [execOp, ho, e1, e2]
    go_simp
/-- an error is not nil -/
theorem e_nn [Ltr] {i : Nat} (hq : ∀ u, Ltr.q i u → ∃ t p, u = .iface t p) : OEOk Tryz.prog (binT .neq 183 183 (Qt i) .nilIface (.bool true)) :=
  binT_ok fun o ρ x y E w ho hx hy => by
    obtain ⟨t, p, e1⟩ := hq _ hx.known
    have e2 := is_flat rfl E _ hy
    refine ⟨.bool true, ?_, .same rfl⟩
    simp only [execOp, ho, e1, e2]
    go_simp
theorem b_le {n m : Nat} {b : Bool} (h : decide (n ≤ m) = b) : binX .leq (.int .u8 n) (.int .u8 m) = some (.bool b) := by
  subst h
  show some (Value.bool (decide ((n : Int) ≤ m))) = _
  rw [show decide ((n : Int) ≤ m) = decide (n ≤ m) by rw [Bool.eq_iff_iff]; simp]
theorem b_ge {n m : Nat} {b : Bool} (h : decide (m ≤ n) = b) : binX .geq (.int .u8 n) (.int .u8 m) = some (.bool b) := by
  subst h
  show some (Value.bool (decide ((n : Int) ≥ m))) = _
  rw [show decide ((n : Int) ≥ m) = decide (m ≤ n) by rw [Bool.eq_iff_iff]; simp]
end Go.Proofs.YtkcolbeemmnolaaGreatDoor
/-
  Letters: slices of texts: length, beginning, the address of an element, what lies there.
-/
namespace Go.Proofs.YtkcolbeemmnolaaGreatDoor
open Go Go.RowKit
/-- a slice's length -/
theorem l_sl [Ltr] {i j n c : Nat} {A : Option Addr} (hi : Ltr.v i = some (.slice A n c)) (hj : Ltr.v j = some (.int .i64 n)) : OEOk Tryz.prog (lenE 128 (Lt i) (Lt j)) :=
  lenE_ok fun o ρ a E w ho ha => by
    have e1 := is_ltr hi E _ ha
    refine ⟨.int .i64 n, ?_, .ltr hj rfl⟩
    simp only [execOp, ho]
    go_simp
/-- a slice's beginning -/
theorem s_cut [Ltr] {i j k n c d : Nat} {A : Addr} (hi : Ltr.v i = some (.slice (some A) n c)) (hk : Ltr.v k = some (.int .i64 d)) (hj : Ltr.v j = some (.slice (some A) d c)) (h : d ≤ c) (hc : 0 < c) : OEOk Tryz.prog (cutE 128 (Lt i) (Lt k) (Lt j)) :=
  cutE_ok fun o ρ a b E w ho ha hb => by
    have e1 := is_ltr hi E _ ha
    have e2 := is_ltr hk E _ hb
    refine ⟨.slice (some A) d c, ?_, .ltr hj rfl⟩
    have hc' : c ≠ 0 := by omega
    simp only [execOp, ho, e1]
    go_simp
/-- the address of an element -/
def iaE (t : TypeId) (x y r : Value) : OE :=
  ⟨fun o ρ => match o with
    | .indexAddr t' a b => Nat.beq t' t && pq (ρ a) x && pq (ρ b) y
    | _ => false, r⟩
theorem iaE_ok [Ltr] {t : TypeId} {x y r : Value} (h : ∀ (o : Oper) (ρ : Operand → Value) (a b : Operand) (E : Ren) (w : World), o.op = .indexAddr t a b → Rel E x (ρ a) → Rel E y (ρ b) → ∃ v, (execOp ρ o).run Tryz.prog w = .ok (.value v) w ∧ Rel E r v) : OEOk Tryz.prog (iaE t x y r) := by
  intro o ρ ρ' E hr hf w
  simp only [iaE] at hf
  split at hf
  · rename_i t' a b ho
    simp only [Bool.and_eq_true] at hf
    obtain ⟨⟨h2, h4⟩, h5⟩ := hf
    rw [ho] at hr
    have ra := hr a (by simp [Op.operands])
    have rb := hr b (by simp [Op.operands])
    rw [pq_eq h4] at ra
    rw [pq_eq h5] at rb
    rw [Nat.eq_of_beq_eq_true h2] at ho
    obtain ⟨v, h6, h7⟩ := h o ρ' a b E w ho ra rb
    exact ⟨v, h6, h7, fun c e => by rw [ho] at e; cases e⟩
  · cases hf
theorem a_el [Ltr] {i j k n c d : Nat} {A : Addr} (hi : Ltr.v i = some (.slice (some A) n c)) (hk : Ltr.v k = some (.int .i64 d)) (hj : Ltr.v j = some (.pointer (some (A.add d)))) (h : d < n) : OEOk Tryz.prog (iaE 128 (Lt i) (Lt k) (Lt j)) :=
  iaE_ok fun o ρ a b E w ho ha hb => by
    have e1 := is_ltr hi E _ ha
    have e2 := is_ltr hk E _ hb
    refine ⟨.pointer (some (A.add d)), ?_, .ltr hj rfl⟩
    simp only [execOp, ho, e1]
    go_simp
/-- what lies at an address -/
def ldE (t : TypeId) (x r : Value) : OE :=
  ⟨fun o ρ => match o with
    | .load t' a => Nat.beq t' t && pq (ρ a) x
    | _ => false, r⟩
theorem l_el [Ltr] {X : Kep} {i j : Nat} {A : Addr} {s : ByteArray} (hi : Ltr.v i = some (.pointer (some A))) (hj : Ltr.v j = some (.string s)) (h : ∀ w : World, (∀ b, X b → w.heap[b]? = X.ob b) → w.cell? A = some (.string s)) : OEOkX Tryz.prog X (ldE 9 (Lt i) (Lt j)) := by
  intro o ρ ρ' E hr hf w hx
  simp only [ldE] at hf
  split at hf
  · rename_i t' a ho
    simp only [Bool.and_eq_true] at hf
    obtain ⟨h2, h4⟩ := hf
    rw [ho] at hr
    have ra := hr a (by simp [Op.operands])
    rw [pq_eq h4] at ra
    rw [Nat.eq_of_beq_eq_true h2] at ho
    have e1 := is_ltr hi E _ ra
    have hc := h w hx
    refine ⟨.string s, ?_, .ltr hj rfl, fun c e => by rw [ho] at e; cases e⟩
    simp only [execOp, ho, e1]
    go_simp
  · cases hf
theorem x_sub {n m : Nat} (h : m ≤ n) (hn : n ≤ 9223372036854775807) : binX .sub (.int .i64 n) (.int .i64 m) = some (.int .i64 (n - m : Nat)) := by
  have h2 : IntKind.i64.wrap ((n : Int) - m) = ((n - m : Nat) : Int) := by
    rw [show ((n : Int) - m) = ((n - m : Nat) : Int) by omega]
    exact IntWalk.i64_in _ (by omega)
  show some (Value.int .i64 (IntKind.i64.wrap ((n : Int) - m))) = _
  rw [h2]
end Go.Proofs.YtkcolbeemmnolaaGreatDoor
/-
  Letters: what goes over from round to round; addresses, fields, what lies in memory that stays.
-/
namespace Go.Proofs.YtkcolbeemmnolaaGreatDoor
open Go Go.RowKit
/-- an address that is not nil -/
def nilE (x : Value) : OE := ⟨fun o ρ => match o with | .nilCheck a => pq (ρ a) x | _ => false, x⟩
theorem nil_ok [Ltr] {i : Nat} {A : Addr} (hi : Ltr.v i = some (.pointer (some A))) : OEOk Tryz.prog (nilE (Lt i)) := by
  intro o ρ ρ' E hr hf w
  simp only [nilE] at hf
  split at hf
  · rename_i a ho
    rw [ho] at hr
    have ra := hr a (by simp [Op.operands])
    rw [pq_eq hf] at ra
    have e1 := is_ltr hi E _ ra
    exact ⟨_, by simp [execOp, ho, e1], .ltr hi rfl, fun c e => (by rw [ho] at e; cases e)⟩
  · cases hf
/-- a field's address -/
def faE (t f : Nat) (x r : Value) : OE := ⟨fun o ρ => match o with | .fieldAddr t' a g => Nat.beq t' t && Nat.beq g f && pq (ρ a) x | _ => false, r⟩
theorem fa_of [Ltr] {i j b t f off : Nat} (h : ∀ w, (Instr.fieldAt t (.pointer (some ⟨b, 0, none⟩)) f).run Tryz.prog w = .ok (.pointer (some ⟨b, off, none⟩)) w) (hi : Ltr.v i = some (.pointer (some ⟨b, 0, none⟩))) (hj : Ltr.v j = some (.pointer (some ⟨b, off, none⟩))) : OEOk Tryz.prog (faE t f (Lt i) (Lt j)) := by
  intro o ρ ρ' E hr hf w
  simp only [faE] at hf
  split at hf
  · rename_i t' a g hop
    simp only [Bool.and_eq_true] at hf
    obtain ⟨⟨h1, h2⟩, h3⟩ := hf
    rw [hop] at hr
    have ra := hr a (by simp [Op.operands])
    rw [pq_eq h3] at ra
    have e1 := is_ltr hi E _ ra
    have h1 := Nat.eq_of_beq_eq_true h1
    have h2 := Nat.eq_of_beq_eq_true h2
    subst h1 h2
    refine ⟨.pointer (some ⟨b, off, none⟩), ?_, .ltr hj rfl, fun c e => (by rw [hop] at e; cases e)⟩
    simp only [execOp, hop, e1]
    exact run_value (h w)
  · cases hf
/-- what lies at an address that stays -/
theorem ld_ok [Ltr] {X : Kep} {t i : Nat} {A : Addr} {u r : Value} (ht : svp Tryz.prog (Go.isAgg t) = some false) (hi : Ltr.v i = some (.pointer (some A))) (hr : ∀ E : Ren, Rel E r u) (h : ∀ w : World, (∀ b, X b → w.heap[b]? = X.ob b) → w.cell? A = some u) : OEOkX Tryz.prog X (ldE t (Lt i) r) := by
  intro o ρ ρ' E hrr hf w hx
  simp only [ldE] at hf
  split at hf
  · rename_i t' a ho
    simp only [Bool.and_eq_true] at hf
    obtain ⟨h2, h4⟩ := hf
    rw [ho] at hrr
    have ra := hrr a (by simp [Op.operands])
    rw [pq_eq h4] at ra
    rw [Nat.eq_of_beq_eq_true h2] at ho
    have e1 := is_ltr hi E _ ra
    have hc := h w hx
    refine ⟨u, ?_, hr E, fun c e => (by rw [ho] at e; cases e)⟩
    simp only [execOp, ho, e1]
    refine run_value ?_
    show ((Instr.sureAddr _) >>= _).run Tryz.prog w = _
    show ((Go.isAgg t) >>= _).run Tryz.prog w = _
    rw [Sem.run_bind, svp_run w ht, Result.andThen_ok]
    show (Go.load _).run Tryz.prog w = _
    simp [Go.load, Sem.run, hc]
  · cases hf
theorem lt_go {L L' : Ltr} {i j : Nat} (h : L.v i = L'.v j) (E E' : Ren) (x : Value) (r : @Rel L E (Lt i) x) : @Rel L' E' (Lt j) x := by
  cases r with
  | same hf => cases hf
  | ltr h1 h2 => exact .ltr (h.symm.trans h1) h2
theorem fl_go {L L' : Ltr} {u : Value} {j : Nat} (hf : flat u = true) (hs : sgl u = true) (h : L'.v j = some u) (E E' : Ren) (x : Value) (r : @Rel L E u x) : @Rel L' E' (Lt j) x := by
  rw [@Rel.flat_eq E L _ _ hf r]
  exact .ltr h hs
/-- letters and blocks go over -/
abbrev traL (v : List (Value × Value)) (o : List (Nat × Nat)) (g : List (Ob × Nat)) : Tra := ⟨v, [], [], [], o, g⟩
theorem traL_ok {L L' : Ltr} {v : List (Value × Value)} {o : List (Nat × Nat)} {g : List (Ob × Nat)} (hv : ∀ p ∈ v, ∀ (E E' : Ren) (x : Value), @Rel L E p.1 x → @Rel L' E' p.2 x) (ho : ∀ p ∈ o, ∀ k y, L.o p.1 k y → L'.o p.2 k y) (hg : ∀ p ∈ g, ∀ (E : Ren) k x, @Ok L E k p.1 x → ∃ y, x = some y ∧ L'.o p.2 k y) : TraOk L L' (traL v o g) where
  v := hv
  s := an
  c := an
  p := an
  o := ho
  g := hg
theorem cell_keep {w w' : World} {A : Addr} {v : Value} (h : w.cell? A = some v) (k : ∀ b, (kep w) b → w'.heap[b]? = (kep w).ob b) : w'.cell? A = some v := by
  have hb : A.block < w.heap.size := World.block_lt_of_cell? _ _ h
  have h2 : w'.heap[A.block]? = w.heap[A.block]? := k A.block hb
  rw [← h]
  simp only [World.cell?, h2]
def ids (l : List Nat) : List (Value × Value) := l.map fun i => (Lt i, Lt i)
theorem ids_ok {L L' : Ltr} {l : List Nat} (h : ∀ i ∈ l, L.v i = L'.v i) : ∀ p ∈ ids l, ∀ (E E' : Ren) (x : Value), @Rel L E p.1 x → @Rel L' E' p.2 x := by
  intro p hp
  obtain ⟨i, hi, rfl⟩ := List.mem_map.1 hp
  exact lt_go (h i hi)
/-- an entry of a map's literal -/
def insE (P : Program) (base : Nat) : ME :=
  ⟨fun op ρ H => match op with
    | .insert t m k v => match mup P base H t (ρ m) (ρ k) (ρ v) with
      | some H2 => some (.skip, H2)
      | none => none
    | _ => none⟩
theorem ins_ok [Ltr] {P : Program} {X : Kep} {base : Nat} : MEOk P X base (insE P base) where
  ok := by
    intro o ρ ρ' E H H1 nx w hρ R e
    simp only [insE] at e
    split at e
    · rename_i t m k v ho
      cases hs : mup P base H t (ρ m) (ρ k) (ρ v) with
      | none => rw [hs] at e; cases e
      | some H2 =>
        rw [hs] at e
        obtain ⟨rfl, rfl⟩ := Prod.mk.inj (Option.some.inj e)
        obtain ⟨w', hr, R1, b1⟩ := mup_sound R (hρ m (by rw [ho]; simp [Op.operands])) (hρ v (by rw [ho]; simp [Op.operands])) hs
        have e1 := (hρ k (by rw [ho]; simp [Op.operands])).kfl_eq (mup_flat hs)
        refine ⟨E, .skip, w', ?_, Ext.refl E, R1, b1, trivial⟩
        simp only [execOp, ho, e1]
        show ((Instr.mapUpdate t (ρ' m) (ρ k) (ρ' v)) >>= _).run P w = _
        rw [Sem.run_bind, hr]
        rfl
    · cases e
  q := by
    intro o ρ H H1 nx e
    simp only [insE] at e
    split at e
    · exact ⟨fun c h => (by cases h), fun h => (by cases h)⟩
    · cases e
theorem ins1 (L : Ltr) {P : Program} {X : Kep} {base : Nat} : ∀ e ∈ [insE P base], @MEOk L P X base e := ac (@ins_ok L _ _ _) an
end Go.Proofs.YtkcolbeemmnolaaGreatDoor
/-
  ExpandSteps: its inner loop as an entry, within a round of the range over the periods.
-/
namespace Go.Proofs.YtkcolbeemmnolaaGreatDoor
open Go Go.RowKit
def rngsOf : Code → List (Array Tmp × Code × Code)
  | .seq a b => rngsOf a ++ rngsOf b
  | .cond _ a b => rngsOf a ++ rngsOf b
  | .block _ a => rngsOf a
  | .loop a => rngsOf a
  | .scope a => rngsOf a
  | .rangeFunc _ ps a b => (ps, a, b) :: (rngsOf a ++ rngsOf b)
  | _ => []
noncomputable def stR : Array Tmp × Code × Code := (rngsOf (bodyOf Tryz.prog 3)).getD 0 (#[], .skip, .skip)
noncomputable def stB : Code := inLoop ((loopsOf stR.2.2).getD 0 .skip)
abbrev Pt (i : Nat) : Value := .pointer (some ⟨i, 0, none⟩)
noncomputable def stM (N : Nat) (f I d F T k a b : Value) : RW := ⟨N, [(65, .row [.bool false] 4), (66, .row [f, I, TOP, TOP, TOP, TOP, TOP, TOP] 36), (67, .row [F] 32), (68, .row [T] 32), (69, .row [k] 3), (70, .row [f, I, TOP, TOP, TOP, TOP, TOP, TOP] 36), (71, .row [d] 32), (72, .df),
  (73, .lp .busy none (fr 67 [(6, Pt 65), (7, Pt 66), (9, Pt 67), (10, Pt 68), (11, Pt 69)]) stR.1 stR.2.1 stR.2.2), (74, .row [a, b] 45)]⟩
noncomputable def stS (N : Nat) : St := ⟨fr 67 [(7, Pt 66), (9, Pt 67), (10, Pt 68), (49, Lt 0), (50, Lt 1)], stM N (Lt 8) (Lt 0) (Lt 12) (Lt 2) (Lt 3) (Lt 9) (Lt 10) (Lt 11), []⟩
noncomputable def stE (N j : Nat) (F T : Value) : St := ⟨fr 67 [(9, Pt 67), (10, Pt 68)], stM N (Lt 12) (Lt 13) (Lt 11) F T (.int .i64 (j + 1 : Nat)) (Lt (21 + 3 * j)) (Lt (22 + 3 * j)), []⟩
def stT (j : Nat) : Tra := traL [(Lt 13, Lt 0), (.int .i64 0, Lt 1), (Lt (21 + 3 * j), Lt 2), (Lt (22 + 3 * j), Lt 3), (Lt 12, Lt 8), (.int .i64 (j + 1 : Nat), Lt 9), (Lt (21 + 3 * j), Lt 10), (Lt (22 + 3 * j), Lt 11), (Lt 11, Lt 12)] [] []
def stN (j : Nat) : Nat := 100 + 20 * j
noncomputable def stX (j : Nat) (last : Bool) : St := bif last then stE (stN j) j (.int .i64 0) TOP else stE (stN j) j (Lt (24 + 3 * j)) (Lt (25 + 3 * j))
noncomputable def stC (j : Nat) (last : Bool) : CE := ⟨.loop stB, stT j, stN j, [], stS (stN j), .exit 2, stX j last⟩
def stGo : List OE := [binE .lss (Lt 1) (Lt 0) (.bool true), binE .geq (Lt 3) (.int .i64 3652059) (.bool false), binE .add (Lt 3) (.int .i64 1) (Lt 5), binE .add (Lt 1) (.int .i64 1) (Lt 4)]
def stP : List PE := [(8, patP [([Lt 8, Lt 5], .tuple ⟨[Lt 6, Lt 7]⟩)])]
def stNx : Tra := traL [(Lt 0, Lt 0), (Lt 4, Lt 1), (Lt 6, Lt 2), (Lt 7, Lt 3), (Lt 8, Lt 8), (Lt 9, Lt 9), (Lt 10, Lt 10), (Lt 11, Lt 11), (Lt 12, Lt 12)] [] []
def stOut (j : Nat) (l : List (Value × Value)) : Tra := traL ([(Lt 0, Lt 13), (Lt 8, Lt 12), (Lt 9, .int .i64 (j + 1 : Nat)), (Lt 10, Lt (21 + 3 * j)), (Lt 11, Lt (22 + 3 * j)), (Lt 12, Lt 11)] ++ l) [] []
noncomputable def stRun (O : List OE) (P : List PE) (j : Nat) (y : Exit) (T : Tra) (s' : St) : Bool := @comes (orcG 64 64 O [] []) Tryz.prog (prL P) 64 64 120 stB (stS (stN j)) y T (stN j) [] s'
theorem st_on : ((List.range 12).all fun j => stRun stGo stP j .normal stNx (stS (stN j))) = true := by kernel_rfl
theorem st_end : ((List.range 12).all fun j => stRun [binE .lss (Lt 1) (Lt 0) (.bool false)] [] j (.exit 2) (stOut j [(Lt 2, Lt (24 + 3 * j)), (Lt 3, Lt (25 + 3 * j))]) (stX j false)) = true := by kernel_rfl
theorem st_brk : ((List.range 12).all fun j => stRun [binE .lss (Lt 1) (Lt 0) (.bool true), binE .geq (Lt 3) (.int .i64 3652059) (.bool true)] [] j (.exit 2) (stOut j []) (stX j true)) = true := by kernel_rfl
theorem at12 {p : Nat → Bool} (h : ((List.range 12).all p) = true) {j : Nat} (hj : j < 12) : p j = true := List.all_eq_true.1 h j (List.mem_range.2 hj)
end Go.Proofs.YtkcolbeemmnolaaGreatDoor
/-
  ExpandSteps: its inner loop, whatever the Interval; the run over letters, for each number of rounds.
-/
namespace Go.Proofs.YtkcolbeemmnolaaGreatDoor
open Go Go.RowKit
theorem from_per {f : Nat} (hf : f < 4) {a s e : Int} (h : Cal.Per f a s e) (w : World) :
    Calls Tryz.prog 8 #[.int .i64 f, .int .i64 a] w fun r w' => r = .returned (.tuple ⟨[.int .i64 s, .int .i64 e]⟩) ∧ Below w.heap.size w w' := by
  obtain ⟨y, m, n, h, rfl, rfl⟩ := h
  exact from_any f hf a y m n h w
theorem stP_ok [Ltr] {w : World} {f : Nat} (hf : f < 4) {a s e : Int} (h : Cal.Per f a s e) (h8 : Ltr.v 8 = some (.int .i64 f)) (h5 : Ltr.v 5 = some (.int .i64 a)) (h6 : Ltr.v 6 = some (.int .i64 s)) (h7 : Ltr.v 7 = some (.int .i64 e)) : ∀ p ∈ stP, PEOk Tryz.prog (kep w) 64 p :=
  ac (pg1 (rl_l h8 (rl_l h5 rl_nil)) (duo h6 h7 rfl rfl) fun w' _ => from_per hf h w') an
theorem stGo_ok [Ltr] {X : Kep} {c I : Nat} {e : Int} (hc : c < I) (hI : I ≤ 999) (he : 1 ≤ e ∧ e < 3652059) (h0 : Ltr.v 0 = some (.int .i64 I)) (h1 : Ltr.v 1 = some (.int .i64 c)) (h3 : Ltr.v 3 = some (.int .i64 e)) (h4 : Ltr.v 4 = some (.int .i64 (c + 1 : Nat))) (h5 : Ltr.v 5 = some (.int .i64 (e + 1))) : ∀ x ∈ stGo, OEOkX Tryz.prog X x :=
  ac (ll h1 h0 (xi_lt (decide_eq_true (by omega))) (to_flat rfl)).x (ac (li h3 rfl (xi_ge (decide_eq_false (by omega))) (to_flat rfl)).x (ac (li h3 rfl (xi_add rfl (by omega)) (to_ltr h5 rfl)).x (ac (li h1 rfl (xi_add (c := (c + 1 : Nat)) (by omega) (by omega)) (to_ltr h4 rfl)).x an)))
abbrev stL (f I c : Nat) (i : Int) (j : Nat) (dv : Int) : Ltr := ltrL [.int .i64 I, .int .i64 c, .int .i64 (Cal.ps f (i + c)), .int .i64 (Cal.pe f (i + c)), .int .i64 (c + 1 : Nat), .int .i64 (Cal.pe f (i + c) + 1), .int .i64 (Cal.ps f (i + (c + 1 : Nat))), .int .i64 (Cal.pe f (i + (c + 1 : Nat))), .int .i64 f, .int .i64 (j + 1 : Nat), .int .i64 (Cal.ps f i), .int .i64 (Cal.pe f i), .int .i64 dv]
theorem lt_fl {L L' : Ltr} {u : Value} {j : Nat} (hf : flat u = true) (h : L.v j = some u) (E E' : Ren) (x : Value) (r : @Rel L E (Lt j) x) : @Rel L' E' u x := by
  rw [@is_ltr L j u h E x r]
  exact .same hf
theorem st_ce (Lo : Ltr) {f I : Nat} {i dv : Int} {j : Nat} (last : Bool) (hf : f < 4) (hI : I ≤ 999) (hj : j < 12) (hok : Cal.pok f i = true) (hl : Cal.pok f (i + I) = !last) (h11 : Lo.v 11 = some (.int .i64 dv)) (h12 : Lo.v 12 = some (.int .i64 f)) (h13 : Lo.v 13 = some (.int .i64 I)) (hF : Lo.v (21 + 3 * j) = some (.int .i64 (Cal.ps f i))) (hT : Lo.v (22 + 3 * j) = some (.int .i64 (Cal.pe f i)))
    (hF1 : last = false → Lo.v (24 + 3 * j) = some (.int .i64 (Cal.ps f (i + I)))) (hT1 : last = false → Lo.v (25 + 3 * j) = some (.int .i64 (Cal.pe f (i + I)))) (w : World) : @CEOk Lo Tryz.prog 64 (kep w) 64 (stC j last) := by
  refine @ce_of Tryz.prog 64 (kep w) 64 Lo Nat (fun c => stL f I c i j dv) (fun _ => stS (stN j)) (fun c => I - c) (fun c => c ≤ I ∧ Cal.pok f (i + c) = true) (stC j last) stB rfl ?_ 0 ⟨Nat.zero_le _, by simpa using hok⟩ rfl
    (traL_ok (ac (lt_go h13) (ac (fl_go rfl rfl rfl) (ac (lt_go (hF.trans (by show some (Value.int .i64 (Cal.ps f i)) = some (.int .i64 (Cal.ps f (i + ((0 : Nat) : Int)))); simp))) (ac (lt_go (hT.trans (by show some (Value.int .i64 (Cal.pe f i)) = some (.int .i64 (Cal.pe f (i + ((0 : Nat) : Int)))); simp))) (ac (lt_go h12) (ac (fl_go rfl rfl rfl) (ac (lt_go hF) (ac (lt_go hT) (ac (lt_go h11) an))))))))) an an) an
  rintro c ⟨hc, hp⟩ ro k E a w' h
  let L : Ltr := stL f I c i j dv
  have nx := Cal.no_next hf hp
  have hin := Cal.no_in hf hp
  rw [show i + (c : Int) + 1 = i + (c + 1 : Nat) by omega] at nx
  have he := Cal.pe_ge hf hp
  have out : ∀ p ∈ (stOut j []).v, ∀ (E E' : Ren) (x : Value), @Rel L E p.1 x → @Rel Lo E' p.2 x :=
    ac (lt_go h13.symm) (ac (lt_go h12.symm) (ac (lt_fl rfl rfl) (ac (lt_go hF.symm) (ac (lt_go hT.symm) (ac (lt_go h11.symm) an)))))
  rcases Nat.lt_or_ge c I with hlt | hge
  · cases hq : Cal.pok f (i + (c + 1 : Nat)) with
    | true =>
      have e1 := nx.1
      rw [hq] at e1
      have e2 : Cal.pe f (i + c) < 3652059 := of_decide_eq_true e1.symm
      have e3 := nx.2.1 hq
      have hper := Cal.no_per hf hq
      rw [e3] at hper
      refine r_on (c + 1) (toldG L (@stGo_ok L _ _ _ _ hlt hI ⟨he, e2⟩ rfl rfl rfl rfl rfl) an an (@stP_ok L _ _ hf _ _ _ hper rfl rfl (congrArg (fun z => some (Value.int .i64 z)) e3) rfl) ?_ an (at12 st_on hj) h) ⟨by omega, hq⟩ (by omega)
      exact traL_ok (ac (lt_go rfl) (ac (lt_go rfl) (ac (lt_go rfl) (ac (lt_go rfl) (ac (lt_go rfl) (ac (lt_go rfl) (ac (lt_go rfl) (ac (lt_go rfl) (ac (lt_go rfl) an))))))))) an an
    | false =>
      have e1 := nx.1
      rw [hq] at e1
      have e2 : ¬ Cal.pe f (i + c) < 3652059 := of_decide_eq_false e1.symm
      cases last with
      | false =>
        exfalso
        have := Cal.pok_down hok (j := c + 1) (k := I) hlt hl
        rw [hq] at this
        cases this
      | true =>
        exact r_out (by intro h; cases h) (toldG L (ac (@ll L _ _ _ _ _ _ _ rfl rfl (xi_lt (decide_eq_true (show (c : Int) < I by omega))) (@to_flat L _ rfl)).x (ac (@li L _ _ _ _ _ _ rfl rfl (xi_ge (decide_eq_true (show Cal.pe f (i + c) ≥ 3652059 by omega))) (@to_flat L _ rfl)).x an)) an an an (traL_ok out an an) an (at12 st_brk hj) h)
  · have hcI : c = I := by omega
    subst hcI
    cases last with
    | true => rw [hp] at hl; cases hl
    | false =>
      refine r_out (by intro h; cases h) (toldG L (ac (@ll L _ _ _ _ _ _ _ rfl rfl (xi_lt (decide_eq_false (show ¬ (c : Int) < c by omega))) (@to_flat L _ rfl)).x an) an an an (traL_ok ?_ an an) an (at12 st_end hj) h)
      intro p hp
      rcases List.mem_append.1 hp with hp | hp
      · exact out p (by rw [stOut, List.append_nil]; exact hp)
      · exact ac (p := fun p => ∀ (E E' : Ren) (x : Value), @Rel L E p.1 x → @Rel Lo E' p.2 x) (lt_go (hF1 rfl).symm) (ac (lt_go (hT1 rfl).symm) an) p hp
def xA : Value := .agg ⟨[Lt 0, Lt 1, Lt 2, Lt 3, Lt 4, Lt 5, Lt 6, Lt 7, Lt 8]⟩
def aggP (xs : List Value) (r : Value) : List Value → RW → Option Value := fun args _ => bif all2 (veqn 4) args xs then some r else none
theorem aggP_ok [Ltr] {P : Program} {X : Kep} {base : Nat} {f : FuncId} {xs : List Value} {r : Value} (h : ∀ (E : Ren) (w : World) (args' : List Value), (∀ b, X b → w.heap[b]? = X.ob b) → RelL E xs args' → Calls P f ⟨args'⟩ w fun e w' => ∃ v', e = .returned v' ∧ Rel E r v' ∧ Below w.heap.size w w') : PEOk P X base (f, aggP xs r) := by
  intro args H v E w args' hR ha e
  dsimp only [aggP] at e
  obtain ⟨hc, e⟩ := cond_some e
  obtain rfl := Option.some.inj e
  rw [all2_eq (fun u v => @veqn_eq noLtr 4 u v) hc] at ha
  exact h E w args' hR.fx ha
def stO (m : Nat) : List OE := binE .lss (Lt 13) (.int .i64 1) (.bool false) :: (List.range m).flatMap fun j => [binE .neq (Lt (21 + 3 * j)) (Lt (21 + 3 * j)) (.bool false), binE .neq (Lt (22 + 3 * j)) (Lt (22 + 3 * j)) (.bool false), binE .eql (Lt (21 + 3 * j)) (.int .i64 0) (.bool false)]
def stPer (m : Nat) : List (List Value × Value) := ([Lt 12, Lt 11], .agg ⟨[Lt 21, Lt 22]⟩) :: ((List.range (m - 1)).map (fun j => ([Lt 12, Lt (23 + 3 * j)], .agg ⟨[Lt (24 + 3 * j), Lt (25 + 3 * j)]⟩)) ++ bif Nat.blt m 13 then [([Lt 12, Lt (20 + 3 * m)], .agg ⟨[.int .i64 0, .int .i64 0]⟩)] else [])
def stVal (m : Nat) : List (List Value × Value) := ([.int .i64 0], .bool false) :: (List.range m).map fun j => ([Lt (21 + 3 * j)], .bool true)
def stLat (m : Nat) : List (List Value × Value) := (List.range m).map fun j => ([Lt 12, Lt (21 + 3 * j), Lt 13], Lt (23 + 3 * j))
def stPE (m : Nat) : List PE := [(4, fixP (.bool true)), (5, aggP [xA] (.bool true)), (6, aggP [xA] (.agg ⟨[Lt 12, Lt 13, Qt 0, Qt 0, Qt 0, Qt 0, Qt 0, Qt 0]⟩)), (7, patP [([Lt 9, Lt 10], Lt 11)]), (8, patP [([Lt 12, Lt 11], .tuple ⟨[Lt 21, Lt 22]⟩)]),
  (24, patP (stPer m)), (25, patP (stVal m)), (26, patP (stLat m))]
noncomputable def stCs (m : Nat) : List CE := (List.range (bif Nat.blt m 13 then m else 12)).map fun j => stC j (Nat.beq (j + 1) m)
end Go.Proofs.YtkcolbeemmnolaaGreatDoor
