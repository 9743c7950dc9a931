/-
  fold: the law's Small: what it answers, at every text of runes; the fixed call of stage 10.
-/
import Derived.Test.YtanonhannngkmaaGreatDoorFd9
import Derived.Test.YtanonhannngkmaaGreatDoorBs9
namespace Go.Proofs.YtanonhannngkmaaGreatDoor
open Go Go.RowKit
namespace Fld
def xat (xs : List (List UInt8)) (j : Nat) : List UInt8 := xs.getD j []
def iat (xs : List (List UInt8)) (j : Nat) : Option Nat := Tbl.idx ⟨⟨xat xs j⟩⟩ (greats.map fun x => ⟨⟨x⟩⟩) 0
end Fld
abbrev lsLt (s : ByteArray) (xs : List (List UInt8)) (j : Nat) : Ltr :=
  ⟨fun i => [.string s, .string ⟨⟨Fld.lows (xs.take j)⟩⟩, .int .i64 j, .int .i64 xs.length, .string ⟨⟨Fld.xat xs j⟩⟩, .int .i64 ((Fld.iat xs j).getD 0 : Nat), .string ⟨⟨Fld.lowB (Fld.xat xs j)⟩⟩, .string ⟨⟨Fld.lows (xs.take (j + 1))⟩⟩, .int .i64 (j + 1 : Nat)][i]?, fun _ _ => False,
    fun _ k y => LsIs (strs xs) 9 1 k y, fun _ k n c => n = xs.length ∧ c = k, fun q o => o = bif Nat.beq q 0 then j else (Fld.iat xs j).getD 0, fun _ => 0⟩
abbrev lsLo (s : ByteArray) (xs : List (List UInt8)) : Ltr :=
  ⟨fun i => [.string s, .string ⟨⟨Fld.lows xs⟩⟩, .int .i64 0, .int .i64 xs.length][i]?, fun _ _ => False, fun _ k y => LsIs (strs xs) 9 1 k y, fun _ k n c => n = xs.length ∧ c = k, fun _ _ => False, fun _ => 0⟩
theorem sv_ss : svp Tryz.prog (Go.sizeOf 9) = some 1 := by kernel_rfl
theorem sv_as : svp Tryz.prog (Go.isAgg 9) = some false := by kernel_rfl
theorem ls_ce (s : ByteArray) (hsz : s.size ≤ 1000000) (xs : List (List UInt8)) (he : s.data.toList = List.flatten xs) (hv : ∀ x ∈ xs, Fld.Vr x) (w : World) : @CEOk (lsLo s xs) Tryz.prog 64 (kep w) 64 lsC := by
  have hn : xs.length ≤ 1000000 := by
    have h1 := Fld.flat_len hv
    rw [← he] at h1
    exact Nat.le_trans h1 hsz
  refine @ce_of Tryz.prog 64 (kep w) 64 (lsLo s xs) Nat (fun j => lsLt s xs j) (fun _ => lsS) (fun j => xs.length - j) (fun j => j ≤ xs.length) lsC lsB rfl ?_ 0 (Nat.zero_le _) rfl ⟨ac (fl_go rfl rfl rfl) (ac (fl_go rfl rfl rfl) (ac (lt_go rfl) an)), ac ⟨rfl, fun k n c h => h⟩ an, an, an, ac (fun k y h => h) an, an⟩ an
  rintro j hj ro k E a w' h
  let L : Ltr := lsLt s xs j
  by_cases hlt : j < xs.length
  · have hxe : Fld.xat xs j = xs[j] := by unfold Fld.xat; simp [hlt]
    have hx : Fld.Vr (Fld.xat xs j) := by rw [hxe]; exact hv _ (List.getElem_mem hlt)
    have hadd : Fld.lows (xs.take j) ++ Fld.lowB (Fld.xat xs j) = Fld.lows (xs.take (j + 1)) := by
      have ht : xs.take (j + 1) = xs.take j ++ [xs[j]] := by rw [List.take_add_one, List.getElem?_eq_getElem hlt]; rfl
      rw [ht, Fld.lows_app, hxe]
      show _ = _ ++ (Fld.lowB xs[j] ++ [])
      rw [List.append_nil]
    have hlen : (Fld.lows (xs.take j)).length + (Fld.lowB (Fld.xat xs j)).length ≤ 1000000 := by
      rw [← List.length_append, hadd, Fld.lows_len fun x hx => hv x (List.mem_of_mem_take hx)]
      have : (List.flatten xs).length = (List.flatten (xs.take (j + 1))).length + (List.flatten (xs.drop (j + 1))).length := by
        rw [← List.length_append, ← List.flatten_append, List.take_append_drop]
      rw [← he] at this
      have h2 : s.data.toList.length = s.size := rfl
      omega
    have hO0 : ∀ e ∈ lsL0, @OEOkX L Tryz.prog (kep w) e :=
      ac (@bll L _ _ _ _ _ _ _ rfl rfl (xk_lt (decide_eq_true hlt)) (@to_flat L _ rfl)).x (ac (@iaV_ok L 28 9 66 0 0 j 1 (Lt 2) Tryz.underlying28 sv_ss (fun k n c h => by rw [h.1]; exact hlt) (@is_ltr L 2 _ rfl) (by show 0 + j * 1 = j; omega)).x
        (ac (@bl L _ _ _ _ _ _ rfl rfl (x_add (n := j) (m := 1) (by omega)) (@to_ltr L 8 _ rfl rfl)).x (ac (@s_add L _ _ 7 _ _ _ (@is_ltr L 1 _ rfl) (@is_ltr L 6 _ rfl) rfl hadd hlen).x an)))
    have hT : TraOk L (lsLt s xs (j + 1)) lsN := ⟨ac (lt_go rfl) (ac (lt_go rfl) (ac (lt_go rfl) an)), ac ⟨rfl, fun k n c h => h⟩ an, an, an, ac (fun k y h => h) an, an⟩
    have hld : ∀ r, (∀ E : Ren, @Rel L E r (.string ⟨⟨Fld.xat xs j⟩⟩)) → @MEOk L Tryz.prog (kep w) 64 (ldC 9 0 0 r) := fun r hr => @ldC_ok L 9 0 0 j (kep w) r (.string ⟨⟨Fld.xat xs j⟩⟩) sv_as (fun k y h => by
      obtain ⟨ys, rfl, _, _⟩ := h
      refine ⟨_, _, rfl, ?_⟩
      have h3 : j < (strs xs).length := by simpa [strs] using hlt
      simp only [List.getElem?_toArray, List.getElem?_append_left h3]
      simp [strs, hlt, hxe]) (fun o h => h) hr
    rcases Fld.find hx with ⟨hi, hlow⟩ | ⟨i, hi, h53, hsm⟩
    · refine r_on (j + 1) (toldG L hO0 (ac (hld (Lt 6) (fun E => @Rel.ltr L E 6 _ (by show some (Value.string ⟨⟨Fld.lowB (Fld.xat xs j)⟩⟩) = _; rw [hlow]) rfl)) an) an (ac (@ixO_ok L (kep w) 64 Fld.greats (Lt 6) (.int .i64 (-1)) ⟨⟨Fld.xat xs j⟩⟩ (by have : Fld.greats.length = 53 := (by kernel_rfl); omega) (@is_ltr L 6 _ (by show some (Value.string ⟨⟨Fld.lowB (Fld.xat xs j)⟩⟩) = _; rw [hlow])) (fun E => by rw [hi]; exact @to_flat L _ rfl E)) an) hT an ls_miss h) hlt (by show xs.length - (j + 1) < xs.length - j; omega)
    · have hiat : (Fld.iat xs j).getD 0 = i := by unfold Fld.iat; rw [hi]; rfl
      have h5 : L.v 5 = some (.int .i64 (i : Nat)) := by show some (Value.int .i64 ((Fld.iat xs j).getD 0 : Nat)) = _; rw [hiat]
      have hO1 : ∀ e ∈ lsL1, @OEOkX L Tryz.prog (kep w) e :=
        ac (@bl L _ _ _ _ _ _ h5 rfl (x_ge (n := i) (m := 0) (decide_eq_true (Nat.zero_le _))) (@to_flat L _ rfl)).x (ac (@bl L _ _ _ _ _ _ h5 rfl (x_lt (n := i) (m := 53) (decide_eq_true h53)) (@to_flat L _ rfl)).x (ac (@iaO_ok L 28 9 65 53 1 i (Lt 5) Tryz.underlying28 sv_ss (@is_ltr L 5 _ h5) h53 (by show i = bif Nat.beq 1 0 then j else (Fld.iat xs j).getD 0; rw [hiat]; rfl)).x hO0))
      refine r_on (j + 1) (toldG L hO1 (ac (hld (Lt 4) (@to_ltr L 4 _ rfl rfl)) (ac (@ldO_ok L 9 1 i (kep w) 64 Fld.smalls (Lt 6) _ sv_as hsm (fun o h => by have h2 : o = bif Nat.beq 1 0 then j else (Fld.iat xs j).getD 0 := h; rw [hiat] at h2; exact h2) (@to_ltr L 6 _ rfl rfl)) an)) an (ac (@ixO_ok L (kep w) 64 Fld.greats (Lt 4) (Lt 5) ⟨⟨Fld.xat xs j⟩⟩ (by have : Fld.greats.length = 53 := (by kernel_rfl); omega) (@is_ltr L 4 _ rfl) (fun E => by rw [hi]; exact @to_ltr L 5 _ h5 rfl E)) an) hT an ls_hit h) hlt (by show xs.length - (j + 1) < xs.length - j; omega)
  · have hje : j = xs.length := by have : j ≤ xs.length := hj; omega
    have e1 : @Eq (Option Value) (L.v 1) ((lsLo s xs).v 1) := by
      show some (Value.string ⟨⟨Fld.lows (xs.take j)⟩⟩) = some (.string ⟨⟨Fld.lows xs⟩⟩)
      rw [hje, List.take_length]
    exact r_out (by intro h; cases h) (toldG L (ac (@bll L _ _ _ _ _ _ _ rfl rfl (xk_lt (decide_eq_false hlt)) (@to_flat L _ rfl)).x an) an an an (traL_ok (ac (lt_go e1) an) an an) an ls_end h)
theorem badI_nil (xs : List (List UInt8)) : Fld.badI xs [] = -1 := rfl
theorem pair_rel [Ltr] (F : Ren) (a b : Value) (h : Rel F a b) : Rel F (.tuple ⟨[a, .int .i64 (-1)]⟩) (.tuple #[b, .int .i64 (-1)]) := .tuple (.cons h (.cons (.same rfl) .nil))
/-- the law's runes of a known text -/
theorem text_ok [Ltr] {X : Kep} {G base : Nat} {l : List (List UInt8)} (hl : l ≠ []) (hv : ∀ x ∈ l, Fld.Vr x) (hn : (List.flatten l).length ≤ 1000000) : PrimOk Tryz.prog (ownP 12 [.string ⟨⟨List.flatten l⟩⟩] l 9 fun v => .tuple ⟨[v, .int .i64 (-1)]⟩) G X base := by
  refine ownP_ok (fun F a b h => pair_rel F a b h) fun E w args' _ ha => ?_
  cases ha with
  | cons h1 t1 =>
    cases t1
    rw [h1.flat_eq rfl]
    refine (runes_any ⟨⟨List.flatten l⟩⟩ hn l [] (by simp) hv rfl w).mono ?_
    rintro e w' ⟨V, rfl, hb, h⟩
    rcases h with ⟨h, _⟩ | ⟨_, h⟩
    · exact absurd h hl
    · exact ⟨V, rfl, hb, h⟩
theorem greats_ok [Ltr] {X : Kep} {G base : Nat} : PrimOk Tryz.prog (ownP 12 [.string ⟨⟨List.flatten Fld.greats⟩⟩] Fld.greats 9 fun v => .tuple ⟨[v, .int .i64 (-1)]⟩) G X base :=
  text_ok (by intro h; have : Fld.greats.length = 53 := (by kernel_rfl); rw [h] at this; cases this) Fld.greats_vr (by have : (List.flatten Fld.greats).length = 80 := (by kernel_rfl); omega)
theorem smalls_ok [Ltr] {X : Kep} {G base : Nat} : PrimOk Tryz.prog (ownP 12 [.string ⟨⟨List.flatten Fld.smalls⟩⟩] Fld.smalls 9 fun v => .tuple ⟨[v, .int .i64 (-1)]⟩) G X base :=
  text_ok (by intro h; have : Fld.smalls.length = 53 := (by kernel_rfl); rw [h] at this; cases this) Fld.smalls_vr (by have : (List.flatten Fld.smalls).length = 80 := (by kernel_rfl); omega)
/-- the law's Small -/
theorem lsmall_any (s : ByteArray) (hsz : s.size ≤ 1000000) (xs : List (List UInt8)) (he : s.data.toList = List.flatten xs) (hv : ∀ x ∈ xs, Fld.Vr x) (w : World) :
    Calls Tryz.prog 11 #[.string s] w fun e w' => e = .returned (.string ⟨⟨Fld.lows xs⟩⟩) ∧ Below w.heap.size w w' := by
  let L : Ltr := lsLo s xs
  have hrn := fun w' => runes_any s hsz xs [] (by rw [he]; simp) hv rfl w'
  have hpr : ∀ x, @PrimOk L Tryz.prog x 64 (kep w) 64 → @PrimOk L Tryz.prog (lsPr x) 64 (kep w) 64 := fun x hx => @orP_ok L _ _ _ _ _ (@greats_ok L _ _ _) (@orP_ok L _ _ _ _ _ (@smalls_ok L _ _ _) hx)
  by_cases hx : xs = []
  · have hp : @PrimOk L Tryz.prog lsNone 64 (kep w) 64 := @prL_ok _ _ _ L _ _ (ac (@patP_ok _ _ _ L _ _ (ac (fun E w' args' _ ha => by
      cases ha with
      | cons h1 t1 =>
        cases t1
        rw [@is_ltr L 0 _ rfl E _ h1]
        refine (hrn w').mono ?_
        rintro e w2 ⟨V, rfl, hb, h⟩
        rcases h with ⟨_, rfl⟩ | ⟨h, _⟩
        · exact ⟨_, rfl, @Rel.tuple L _ _ _ (@RelL.cons L _ _ _ _ _ (@to_flat L _ rfl _) (@RelL.cons L _ _ _ _ _ (@to_flat L _ rfl _) (@RelL.nil L _))), hb⟩
        · exact absurd hx h) an)) an)
    have := symP L 120 an an an (hpr _ hp) (@RelL.cons L _ _ _ _ _ (@Rel.ltr L _ 0 _ rfl rfl) (@RelL.nil L _)) rfl ls_nil (w := w)
    rw [hx]
    exact this
  · have hp : @PrimOk L Tryz.prog lsList 64 (kep w) 64 := @newP_ok L _ _ _ _ _ _ _ _ fun E w' args' _ ha => by
      cases ha with
      | cons h1 t1 =>
        cases t1
        rw [@is_ltr L 0 _ rfl E _ h1]
        refine (hrn w').mono ?_
        rintro e w2 ⟨V, rfl, hb, h⟩
        rcases h with ⟨h, _⟩ | ⟨_, b, k, y, rfl, h3, h4, h5⟩
        · exact absurd h hx
        · exact ⟨b, k, y, _, rfl, hb, h3, h4, h5, fun F n hF => @pair_rel L F _ _ (@Rel.sll L _ _ 0 _ _ _ _ hF ⟨rfl, rfl⟩)⟩
    refine (symI' L 120 (ac (@lenC_ok L 28 9 0 3 xs.length Tryz.underlying28 (fun k n c h => h.1) rfl).x an) an (ac (ls_ce s hsz xs he hv w) an) (hpr _ hp) (@RelL.cons L _ _ _ _ _ (@Rel.ltr L _ 0 _ rfl rfl) (@RelL.nil L _)) ls_all).mono ?_
    rintro e w' ⟨v', F, rfl, rv, hb⟩
    rw [@is_ltr L 1 _ rfl F _ rv]
    exact ⟨rfl, hb⟩
def aw10L : List PE := [(13, fixP (.bool true)), (10, patP [([.string ⟨⟨[77, 195, 132, 82, 90]⟩⟩], .string ⟨⟨[109, 195, 164, 114, 122]⟩⟩)]), (8, patP [([.string ⟨⟨[97, 255]⟩⟩], .int .i64 1), ([.string ⟨⟨[97]⟩⟩], .int .i64 (-1))])]
theorem comes10 : SymG [] [] [] aw10L 40 7 [] (.bool true) := by delta SymG; show _ = _; kernel_rfl
theorem awk10 (w : World) (hT : TabsE tabs w) (hM : MaxIn w) (hU : UT w) : Calls Tryz.prog 7 #[] w fun e w' => e = .returned (.bool true) ∧ Below w.heap.size w w' := by
  have vm : ∀ x ∈ ([[77], [195, 132], [82], [90]] : List (List UInt8)), Fld.Vr x := fun x hx => by
    have : (([[77], [195, 132], [82], [90]] : List (List UInt8)).all Fld.okR) = true := by kernel_rfl
    exact Fld.okR_vr (List.all_eq_true.1 this x hx)
  have va : ∀ x ∈ ([[97]] : List (List UInt8)), Fld.Vr x := fun x hx => by
    have : (([[97]] : List (List UInt8)).all Fld.okR) = true := by kernel_rfl
    exact Fld.okR_vr (List.all_eq_true.1 this x hx)
  have one : ∀ {E : Ren} {v : Value} {args' : List Value}, flat v = true → @RelL noLtr E [v] args' → args' = [v] := fun {E v args'} hf ha => by
    cases ha with
    | cons h1 t1 => cases t1; rw [@Rel.flat_eq E noLtr _ _ hf h1]
  refine symGF noLtr 40 an an an (ac (@fixP_ok _ _ _ noLtr _ _ rfl fun w' k => awk9 w' (hT.keep k) (hM.keep k)) (ac (@patP_ok _ _ _ noLtr _ _ (ac (fun E w' args' _ ha => ?_) an)) (ac (@patP_ok _ _ _ noLtr _ _ (ac (fun E w' args' k ha => ?_) (ac (fun E w' args' k ha => ?_) an))) an))) (@RelL.nil noLtr _) rfl comes10
  · rw [one rfl ha]
    exact (small_any ⟨⟨[77, 195, 132, 82, 90]⟩⟩ (by show 5 ≤ _; omega) [[77], [195, 132], [82], [90]] rfl vm w').mono fun e w2 p => ⟨_, p.1, @to_flat noLtr _ rfl _, p.2⟩
  · rw [one rfl ha]
    exact (bad_any ⟨⟨[97, 255]⟩⟩ [[97]] [255] rfl va rfl w' (hU.keep k)).mono fun e w2 p => ⟨_, p.1, @to_flat noLtr _ rfl _, p.2⟩
  · rw [one rfl ha]
    exact (bad_any ⟨⟨[97]⟩⟩ [[97]] [] rfl va rfl w' (hU.keep k)).mono fun e w2 p => ⟨_, p.1, @to_flat noLtr _ rfl _, p.2⟩
end Go.Proofs.YtanonhannngkmaaGreatDoor
/-
  fold: small letters are runes, and are their own; bytes that stay, as a text.
-/
namespace Go.Proofs.YtanonhannngkmaaGreatDoor
open Go Go.RowKit
/-- bytes that lie in memory -/
def BytesAt (w : World) (A : Option Addr) (bs : List UInt8) : Prop := ∀ (j : Nat) (x : UInt8), bs[j]? = some x → ∃ a : Addr, A = some a ∧ w.cell? (a.add j) = some (.int .u8 x.toNat)
theorem BytesAt.keep {w w' : World} {A : Option Addr} {bs : List UInt8} (h : BytesAt w A bs) (k : ∀ b, (kep w) b → w'.heap[b]? = (kep w).ob b) : BytesAt w' A bs := fun j x hj => by
  obtain ⟨a, h1, h2⟩ := h j x hj
  exact ⟨a, h1, cell_keep h2 k⟩
/-- a slice of bytes that stay, as a text -/
theorem by_text [Ltr] {X : Kep} {i j n c : Nat} {A : Option Addr} {bs : List UInt8} (hi : Ltr.v i = some (.slice A n c)) (hn : n = bs.length) (hj : Ltr.v j = some (.string ⟨⟨bs⟩⟩)) (h : ∀ w : World, (∀ b, X b → w.heap[b]? = X.ob b) → BytesAt w A bs) : OEOkX Tryz.prog X (cvE 22 9 (Lt i) (Lt j)) := by
  intro o ρ ρ' E hr hf w hx
  subst hn
  cases ho : o.op with
  | convert s' d' a =>
    rw [ho] at hf hr
    simp only [cvE, Bool.and_eq_true] at hf
    obtain ⟨⟨h2, h3⟩, h4⟩ := hf
    rw [Nat.eq_of_beq_eq_true h2, Nat.eq_of_beq_eq_true h3] at ho
    have ra := hr a (by simp [Op.operands])
    rw [pq_eq h4] at ra
    have e1 := is_ltr hi E _ ra
    have hB := h w hx
    refine ⟨.string ⟨⟨bs⟩⟩, ?_, .ltr hj rfl, fun c e => by cases e⟩
    simp only [execOp, ho, e1]
    refine run_value ?_
    show ((Go.underlying _) >>= _).run Tryz.prog w = _
    rw [Sem.run_bind, svp_run w sv_ub, Result.andThen_ok, Sem.run_bind, svp_run w sv_us, Result.andThen_ok]
    dsimp only
    rw [Sem.run_bind, svp_run w sv_u8, Result.andThen_ok]
    cases A with
    | none =>
      have hnil : bs = [] := by
        cases bs with
        | nil => rfl
        | cons x l =>
          obtain ⟨a, h5, _⟩ := hB 0 x rfl
          cases h5
      subst hnil
      rfl
    | some a =>
      have hload : (Go.loadCells a bs.length).run Tryz.prog w = .ok ((bs.map fun b => (b.toNat : Int)).map (Value.int .u8)).toArray w := by
        have := run_loadCellsFrom (P := Tryz.prog) (w := w) (a := a) (bs.map fun b => Value.int .u8 b.toNat) 0 #[] (fun m u hu => by
          rw [Nat.zero_add]
          rw [List.getElem?_map] at hu
          cases hb : bs[m]? with
          | none => rw [hb] at hu; cases hu
          | some x =>
            rw [hb] at hu
            obtain rfl := Option.some.inj hu
            obtain ⟨a', h5, h6⟩ := hB m x hb
            obtain rfl := Option.some.inj h5
            exact h6)
        rw [List.length_map] at this
        simpa [Go.loadCells, Function.comp_def] using this
      have h3 := run_bytesToString (P := Tryz.prog) w a bs.length c _ hload
      rw [push_bytes] at h3
      exact h3
  | _ => rw [ho] at hf; simp [cvE] at hf
/-- a slice's length, whatever lies there -/
theorem l_any [Ltr] {t e i j n c : Nat} {A : Option Addr} (hu : Tryz.prog.underlying t = some (.slice e)) (hi : Ltr.v i = some (.slice A n c)) (hj : Ltr.v j = some (.int .i64 n)) : OEOk Tryz.prog (lenE t (Lt i) (Lt j)) :=
  lenE_ok fun o ρ a E w ho ha => by
    have e1 := is_ltr hi E _ ha
    refine ⟨.int .i64 n, ?_, .ltr hj rfl⟩
    simp only [execOp, ho, resolve, invoke, pure_bind, Go.builtin]
    refine run_value ?_
    simp [e1, Builtin.len_, Sem.run_bind, run_underlying hu]
    rfl
theorem xi_self {a : Int} : binX .eql (.int .i64 a) (.int .i64 a) = some (.bool true) := by
  show some (Value.bool (a == a)) = _
  simp
/-- the same number -/
theorem eq_ltr [Ltr] {i : Nat} {a : Int} (hi : Ltr.v i = some (.int .i64 a)) : OEOk Tryz.prog (binE .eql (Lt i) (Lt i) (.bool true)) := bll hi hi xi_self (to_flat rfl)
/-- the same text -/
theorem eq_txt [Ltr] {i : Nat} {s : ByteArray} (hi : Ltr.v i = some (.string s)) : OEOk Tryz.prog (binT .eql 9 9 (Lt i) (Lt i) (.bool true)) := sb_eq (is_ltr hi) (is_ltr hi) (decide_eq_true rfl)
namespace Fld
theorem lowB_vr {x : List UInt8} (h : Vr x) : Vr (lowB x) := by
  unfold lowB
  cases hk : lk (rv x) with
  | none => exact h
  | some v => exact (gs_of (lkIn_some hk)).2.1
theorem lowB_low {x : List UInt8} : lowB (lowB x) = lowB x := by
  unfold lowB
  cases hk : lk (rv x) with
  | none => rw [hk]
  | some v =>
    obtain ⟨_, _, _, h4, _, h6⟩ := gs_of (lkIn_some hk)
    have h4 : rv (enc v) = v := h4
    have h6 : lk v = none := h6
    dsimp only
    rw [h4, h6]
theorem lows_vr {xs : List (List UInt8)} (h : ∀ x ∈ xs, Vr x) : ∀ x ∈ xs.map lowB, Vr x := fun x hx => by
  obtain ⟨y, hy, rfl⟩ := List.mem_map.1 hx
  exact lowB_vr (h y hy)
theorem lows_low (xs : List (List UInt8)) : lows (xs.map lowB) = lows xs := by
  unfold lows
  rw [List.map_map]
  congr 1
  exact List.map_congr_left fun x _ => lowB_low
end Fld
end Go.Proofs.YtanonhannngkmaaGreatDoor
