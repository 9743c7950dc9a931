/-
  Letters: a text's length, its bytes; errors.
-/
import Derived.Test.YtnggajehngemmaaGreatDoorEvT
import Derived.Test.YtnggajehngemmaaGreatDoorEvZ
namespace Go.Proofs.YtnggajehngemmaaGreatDoor
open Go Go.RowKit
def lenE (t : TypeId) (x r : Value) : OE :=
  ⟨fun o ρ => match o with
    | .call ⟨.builtin .len, ⟨[a]⟩, ⟨[t']⟩⟩ => Nat.beq t' t && pq (ρ a) x
    | _ => false, r⟩
theorem lenE_ok [Ltr] {t : TypeId} {x r : Value} (h : ∀ (o : Oper) (ρ : Operand → Value) (a : Operand) (E : Ren) (w : World), o.op = .call ⟨.builtin .len, #[a], #[t]⟩ → Rel E x (ρ a) → ∃ v, (execOp ρ o).run Tryz.prog w = .ok (.value v) w ∧ Rel E r v) : OEOk Tryz.prog (lenE t x r) := by
  intro o ρ ρ' E hr hf w
  simp only [lenE] at hf
  split at hf
  · rename_i a t' ho
    simp only [Bool.and_eq_true] at hf
    obtain ⟨h2, h4⟩ := hf
    rw [ho] at hr
    have ra := hr a (by simp [Op.operands, Call.operands])
    rw [pq_eq h4] at ra
    rw [Nat.eq_of_beq_eq_true h2] at ho
    obtain ⟨v, h6, h7⟩ := h o ρ' a E w ho ra
    exact ⟨v, h6, h7, fun c e => by rw [ho] at e; cases e⟩
  · cases hf
/-- a text's length -/
theorem l_str [Ltr] {i j : Nat} {t : List UInt8} (hi : Ltr.v i = some (.string ⟨⟨t⟩⟩)) (hj : Ltr.v j = some (.int .i64 t.length)) : OEOk Tryz.prog (lenE 9 (Lt i) (Lt j)) :=
  lenE_ok fun o ρ a E w ho ha => by
    have e1 := is_ltr hi E _ ha
    refine ⟨.int .i64 t.length, ?_, .ltr hj rfl⟩
    have e : ((⟨⟨t⟩⟩ : ByteArray).size : Int) = t.length := rfl
    rw [← e]
    simp only [execOp, ho]
    go_simp
def idxE (t : TypeId) (x y r : Value) : OE :=
  ⟨fun o ρ => match o with
    | .index t' a b => Nat.beq t' t && pq (ρ a) x && pq (ρ b) y
    | _ => false, r⟩
theorem idxE_ok [Ltr] {t : TypeId} {x y r : Value} (h : ∀ (o : Oper) (ρ : Operand → Value) (a b : Operand) (E : Ren) (w : World), o.op = .index t a b → Rel E x (ρ a) → Rel E y (ρ b) → ∃ v, (execOp ρ o).run Tryz.prog w = .ok (.value v) w ∧ Rel E r v) : OEOk Tryz.prog (idxE t x y r) := by
  intro o ρ ρ' E hr hf w
  simp only [idxE] at hf
  split at hf
  · rename_i t' a b ho
    simp only [Bool.and_eq_true] at hf
    obtain ⟨⟨h2, h4⟩, h5⟩ := hf
    rw [ho] at hr
    have ra := hr a (by simp [Op.operands])
    have rb := hr b (by simp [Op.operands])
    rw [pq_eq h4] at ra
    rw [pq_eq h5] at rb
    rw [Nat.eq_of_beq_eq_true h2] at ho
    obtain ⟨v, h6, h7⟩ := h o ρ' a b E w ho ra rb
    exact ⟨v, h6, h7, fun c e => by rw [ho] at e; cases e⟩
  · cases hf
/-- a text's byte -/
theorem i_str [Ltr] {i j k : Nat} {t : List UInt8} (hi : Ltr.v i = some (.string ⟨⟨t⟩⟩)) (hk : k < t.length) (hj : Ltr.v j = some (.int .u8 (t[k].toNat : Nat))) : OEOk Tryz.prog (idxE 9 (Lt i) (.int .i64 k) (Lt j)) :=
  idxE_ok fun o ρ a b E w ho ha hb => by
    have e1 := is_ltr hi E _ ha
    have e2 := is_flat rfl E _ hb
    refine ⟨.int .u8 (t[k].toNat : Nat), ?_, .ltr hj rfl⟩
    have hk' : k < (⟨⟨t⟩⟩ : ByteArray).size := hk
    have e : (⟨⟨t⟩⟩ : ByteArray)[k] = t[k] := rfl
    rw [← e]
    simp only [execOp, ho, e1, e2]
    go_simp
/-- an error is not nil -/
theorem e_nn [Ltr] {i : Nat} (hq : ∀ u, Ltr.q i u → ∃ t p, u = .iface t p) : OEOk Tryz.prog (binT .neq 133 133 (Qt i) .nilIface (.bool true)) :=
  binT_ok fun o ρ x y E w ho hx hy => by
    obtain ⟨t, p, e1⟩ := hq _ hx.known
    have e2 := is_flat rfl E _ hy
    refine ⟨.bool true, ?_, .same rfl⟩
    simp only [execOp, ho, e1, e2]
    go_simp
theorem b_le {n m : Nat} {b : Bool} (h : decide (n ≤ m) = b) : binX .leq (.int .u8 n) (.int .u8 m) = some (.bool b) := by
  subst h
  show some (Value.bool (decide ((n : Int) ≤ m))) = _
  rw [show decide ((n : Int) ≤ m) = decide (n ≤ m) by rw [Bool.eq_iff_iff]; simp]
theorem b_ge {n m : Nat} {b : Bool} (h : decide (m ≤ n) = b) : binX .geq (.int .u8 n) (.int .u8 m) = some (.bool b) := by
  subst h
  show some (Value.bool (decide ((n : Int) ≥ m))) = _
  rw [show decide ((n : Int) ≥ m) = decide (m ≤ n) by rw [Bool.eq_iff_iff]; simp]
end Go.Proofs.YtnggajehngemmaaGreatDoor
/-
  Letters: slices of texts: length, beginning, the address of an element, what lies there.
-/
namespace Go.Proofs.YtnggajehngemmaaGreatDoor
open Go Go.RowKit
/-- a slice's length -/
theorem l_sl [Ltr] {i j n c : Nat} {A : Option Addr} (hi : Ltr.v i = some (.slice A n c)) (hj : Ltr.v j = some (.int .i64 n)) : OEOk Tryz.prog (lenE 89 (Lt i) (Lt j)) :=
  lenE_ok fun o ρ a E w ho ha => by
    have e1 := is_ltr hi E _ ha
    refine ⟨.int .i64 n, ?_, .ltr hj rfl⟩
    simp only [execOp, ho]
    go_simp
/-- a slice's beginning -/
theorem s_cut [Ltr] {i j k n c d : Nat} {A : Addr} (hi : Ltr.v i = some (.slice (some A) n c)) (hk : Ltr.v k = some (.int .i64 d)) (hj : Ltr.v j = some (.slice (some A) d c)) (h : d ≤ c) (hc : 0 < c) : OEOk Tryz.prog (cutE 89 (Lt i) (Lt k) (Lt j)) :=
  cutE_ok fun o ρ a b E w ho ha hb => by
    have e1 := is_ltr hi E _ ha
    have e2 := is_ltr hk E _ hb
    refine ⟨.slice (some A) d c, ?_, .ltr hj rfl⟩
    have hc' : c ≠ 0 := by omega
    simp only [execOp, ho, e1]
    go_simp
/-- the address of an element -/
def iaE (t : TypeId) (x y r : Value) : OE :=
  ⟨fun o ρ => match o with
    | .indexAddr t' a b => Nat.beq t' t && pq (ρ a) x && pq (ρ b) y
    | _ => false, r⟩
theorem iaE_ok [Ltr] {t : TypeId} {x y r : Value} (h : ∀ (o : Oper) (ρ : Operand → Value) (a b : Operand) (E : Ren) (w : World), o.op = .indexAddr t a b → Rel E x (ρ a) → Rel E y (ρ b) → ∃ v, (execOp ρ o).run Tryz.prog w = .ok (.value v) w ∧ Rel E r v) : OEOk Tryz.prog (iaE t x y r) := by
  intro o ρ ρ' E hr hf w
  simp only [iaE] at hf
  split at hf
  · rename_i t' a b ho
    simp only [Bool.and_eq_true] at hf
    obtain ⟨⟨h2, h4⟩, h5⟩ := hf
    rw [ho] at hr
    have ra := hr a (by simp [Op.operands])
    have rb := hr b (by simp [Op.operands])
    rw [pq_eq h4] at ra
    rw [pq_eq h5] at rb
    rw [Nat.eq_of_beq_eq_true h2] at ho
    obtain ⟨v, h6, h7⟩ := h o ρ' a b E w ho ra rb
    exact ⟨v, h6, h7, fun c e => by rw [ho] at e; cases e⟩
  · cases hf
theorem a_el [Ltr] {i j k n c d : Nat} {A : Addr} (hi : Ltr.v i = some (.slice (some A) n c)) (hk : Ltr.v k = some (.int .i64 d)) (hj : Ltr.v j = some (.pointer (some (A.add d)))) (h : d < n) : OEOk Tryz.prog (iaE 89 (Lt i) (Lt k) (Lt j)) :=
  iaE_ok fun o ρ a b E w ho ha hb => by
    have e1 := is_ltr hi E _ ha
    have e2 := is_ltr hk E _ hb
    refine ⟨.pointer (some (A.add d)), ?_, .ltr hj rfl⟩
    simp only [execOp, ho, e1]
    go_simp
/-- what lies at an address -/
def ldE (t : TypeId) (x r : Value) : OE :=
  ⟨fun o ρ => match o with
    | .load t' a => Nat.beq t' t && pq (ρ a) x
    | _ => false, r⟩
theorem l_el [Ltr] {X : Kep} {i j : Nat} {A : Addr} {s : ByteArray} (hi : Ltr.v i = some (.pointer (some A))) (hj : Ltr.v j = some (.string s)) (h : ∀ w : World, (∀ b, X b → w.heap[b]? = X.ob b) → w.cell? A = some (.string s)) : OEOkX Tryz.prog X (ldE 9 (Lt i) (Lt j)) := by
  intro o ρ ρ' E hr hf w hx
  simp only [ldE] at hf
  split at hf
  · rename_i t' a ho
    simp only [Bool.and_eq_true] at hf
    obtain ⟨h2, h4⟩ := hf
    rw [ho] at hr
    have ra := hr a (by simp [Op.operands])
    rw [pq_eq h4] at ra
    rw [Nat.eq_of_beq_eq_true h2] at ho
    have e1 := is_ltr hi E _ ra
    have hc := h w hx
    refine ⟨.string s, ?_, .ltr hj rfl, fun c e => by rw [ho] at e; cases e⟩
    simp only [execOp, ho, e1]
    go_simp
  · cases hf
theorem x_sub {n m : Nat} (h : m ≤ n) (hn : n ≤ 9223372036854775807) : binX .sub (.int .i64 n) (.int .i64 m) = some (.int .i64 (n - m : Nat)) := by
  have h2 : IntKind.i64.wrap ((n : Int) - m) = ((n - m : Nat) : Int) := by
    rw [show ((n : Int) - m) = ((n - m : Nat) : Int) by omega]
    exact IntWalk.i64_in _ (by omega)
  show some (Value.int .i64 (IntKind.i64.wrap ((n : Int) - m))) = _
  rw [h2]
end Go.Proofs.YtnggajehngemmaaGreatDoor
/-
  Letters: what goes over from round to round; addresses, fields, what lies in memory that stays.
-/
namespace Go.Proofs.YtnggajehngemmaaGreatDoor
open Go Go.RowKit
/-- an address that is not nil -/
def nilE (x : Value) : OE := ⟨fun o ρ => match o with | .nilCheck a => pq (ρ a) x | _ => false, x⟩
theorem nil_ok [Ltr] {i : Nat} {A : Addr} (hi : Ltr.v i = some (.pointer (some A))) : OEOk Tryz.prog (nilE (Lt i)) := by
  intro o ρ ρ' E hr hf w
  simp only [nilE] at hf
  split at hf
  · rename_i a ho
    rw [ho] at hr
    have ra := hr a (by simp [Op.operands])
    rw [pq_eq hf] at ra
    have e1 := is_ltr hi E _ ra
    exact ⟨_, by simp [execOp, ho, e1], .ltr hi rfl, fun c e => (by rw [ho] at e; cases e)⟩
  · cases hf
/-- a field's address -/
def faE (t f : Nat) (x r : Value) : OE := ⟨fun o ρ => match o with | .fieldAddr t' a g => Nat.beq t' t && Nat.beq g f && pq (ρ a) x | _ => false, r⟩
theorem fa_of [Ltr] {i j b t f off : Nat} (h : ∀ w, (Instr.fieldAt t (.pointer (some ⟨b, 0, none⟩)) f).run Tryz.prog w = .ok (.pointer (some ⟨b, off, none⟩)) w) (hi : Ltr.v i = some (.pointer (some ⟨b, 0, none⟩))) (hj : Ltr.v j = some (.pointer (some ⟨b, off, none⟩))) : OEOk Tryz.prog (faE t f (Lt i) (Lt j)) := by
  intro o ρ ρ' E hr hf w
  simp only [faE] at hf
  split at hf
  · rename_i t' a g hop
    simp only [Bool.and_eq_true] at hf
    obtain ⟨⟨h1, h2⟩, h3⟩ := hf
    rw [hop] at hr
    have ra := hr a (by simp [Op.operands])
    rw [pq_eq h3] at ra
    have e1 := is_ltr hi E _ ra
    have h1 := Nat.eq_of_beq_eq_true h1
    have h2 := Nat.eq_of_beq_eq_true h2
    subst h1 h2
    refine ⟨.pointer (some ⟨b, off, none⟩), ?_, .ltr hj rfl, fun c e => (by rw [hop] at e; cases e)⟩
    simp only [execOp, hop, e1]
    exact run_value (h w)
  · cases hf
/-- what lies at an address that stays -/
theorem ld_ok [Ltr] {X : Kep} {t i : Nat} {A : Addr} {u r : Value} (ht : svp Tryz.prog (Go.isAgg t) = some false) (hi : Ltr.v i = some (.pointer (some A))) (hr : ∀ E : Ren, Rel E r u) (h : ∀ w : World, (∀ b, X b → w.heap[b]? = X.ob b) → w.cell? A = some u) : OEOkX Tryz.prog X (ldE t (Lt i) r) := by
  intro o ρ ρ' E hrr hf w hx
  simp only [ldE] at hf
  split at hf
  · rename_i t' a ho
    simp only [Bool.and_eq_true] at hf
    obtain ⟨h2, h4⟩ := hf
    rw [ho] at hrr
    have ra := hrr a (by simp [Op.operands])
    rw [pq_eq h4] at ra
    rw [Nat.eq_of_beq_eq_true h2] at ho
    have e1 := is_ltr hi E _ ra
    have hc := h w hx
    refine ⟨u, ?_, hr E, fun c e => (by rw [ho] at e; cases e)⟩
    simp only [execOp, ho, e1]
    refine run_value ?_
    show ((Instr.sureAddr _) >>= _).run Tryz.prog w = _
    show ((Go.isAgg t) >>= _).run Tryz.prog w = _
    rw [Sem.run_bind, svp_run w ht, Result.andThen_ok]
    show (Go.load _).run Tryz.prog w = _
    simp [Go.load, Sem.run, hc]
  · cases hf
theorem lt_go {L L' : Ltr} {i j : Nat} (h : L.v i = L'.v j) (E E' : Ren) (x : Value) (r : @Rel L E (Lt i) x) : @Rel L' E' (Lt j) x := by
  cases r with
  | same hf => cases hf
  | ltr h1 h2 => exact .ltr (h.symm.trans h1) h2
theorem fl_go {L L' : Ltr} {u : Value} {j : Nat} (hf : flat u = true) (hs : sgl u = true) (h : L'.v j = some u) (E E' : Ren) (x : Value) (r : @Rel L E u x) : @Rel L' E' (Lt j) x := by
  rw [@Rel.flat_eq E L _ _ hf r]
  exact .ltr h hs
/-- letters and blocks go over -/
abbrev traL (v : List (Value × Value)) (o : List (Nat × Nat)) (g : List (Ob × Nat)) : Tra := ⟨v, [], [], [], o, g⟩
theorem traL_ok {L L' : Ltr} {v : List (Value × Value)} {o : List (Nat × Nat)} {g : List (Ob × Nat)} (hv : ∀ p ∈ v, ∀ (E E' : Ren) (x : Value), @Rel L E p.1 x → @Rel L' E' p.2 x) (ho : ∀ p ∈ o, ∀ k y, L.o p.1 k y → L'.o p.2 k y) (hg : ∀ p ∈ g, ∀ (E : Ren) k x, @Ok L E k p.1 x → ∃ y, x = some y ∧ L'.o p.2 k y) : TraOk L L' (traL v o g) where
  v := hv
  s := an
  c := an
  p := an
  o := ho
  g := hg
theorem cell_keep {w w' : World} {A : Addr} {v : Value} (h : w.cell? A = some v) (k : ∀ b, (kep w) b → w'.heap[b]? = (kep w).ob b) : w'.cell? A = some v := by
  have hb : A.block < w.heap.size := World.block_lt_of_cell? _ _ h
  have h2 : w'.heap[A.block]? = w.heap[A.block]? := k A.block hb
  rw [← h]
  simp only [World.cell?, h2]
def ids (l : List Nat) : List (Value × Value) := l.map fun i => (Lt i, Lt i)
theorem ids_ok {L L' : Ltr} {l : List Nat} (h : ∀ i ∈ l, L.v i = L'.v i) : ∀ p ∈ ids l, ∀ (E E' : Ren) (x : Value), @Rel L E p.1 x → @Rel L' E' p.2 x := by
  intro p hp
  obtain ⟨i, hi, rfl⟩ := List.mem_map.1 hp
  exact lt_go (h i hi)
/-- an entry of a map's literal -/
def insE (P : Program) (base : Nat) : ME :=
  ⟨fun op ρ H => match op with
    | .insert t m k v => match mup P base H t (ρ m) (ρ k) (ρ v) with
      | some H2 => some (.skip, H2)
      | none => none
    | _ => none⟩
theorem ins_ok [Ltr] {P : Program} {X : Kep} {base : Nat} : MEOk P X base (insE P base) where
  ok := by
    intro o ρ ρ' E H H1 nx w hρ R e
    simp only [insE] at e
    split at e
    · rename_i t m k v ho
      cases hs : mup P base H t (ρ m) (ρ k) (ρ v) with
      | none => rw [hs] at e; cases e
      | some H2 =>
        rw [hs] at e
        obtain ⟨rfl, rfl⟩ := Prod.mk.inj (Option.some.inj e)
        obtain ⟨w', hr, R1, b1⟩ := mup_sound R (hρ m (by rw [ho]; simp [Op.operands])) (hρ v (by rw [ho]; simp [Op.operands])) hs
        have e1 := (hρ k (by rw [ho]; simp [Op.operands])).kfl_eq (mup_flat hs)
        refine ⟨E, .skip, w', ?_, Ext.refl E, R1, b1, trivial⟩
        simp only [execOp, ho, e1]
        show ((Instr.mapUpdate t (ρ' m) (ρ k) (ρ' v)) >>= _).run P w = _
        rw [Sem.run_bind, hr]
        rfl
    · cases e
  q := by
    intro o ρ H H1 nx e
    simp only [insE] at e
    split at e
    · exact ⟨fun c h => (by cases h), fun h => (by cases h)⟩
    · cases e
theorem ins1 (L : Ltr) {P : Program} {X : Kep} {base : Nat} : ∀ e ∈ [insE P base], @MEOk L P X base e := ac (@ins_ok L _ _ _) an
end Go.Proofs.YtnggajehngemmaaGreatDoor
