/-
  fold: the law's runes: what it answers, at every text.
-/
import Derived.Test.YtanonhannngkmaaGreatDoorFd2
import Derived.Test.YtanonhannngkmaaGreatDoorShelf
import Derived.Test.YtanonhannngkmaaGreatDoorTw1
namespace Go.Proofs.YtanonhannngkmaaGreatDoor
open Go Go.RowKit
namespace Fld
def okb (lo hi k : Nat) (b : Nat) : Bool := Nat.ble (bif Nat.beq k 0 then lo else 128) b && Nat.ble b (bif Nat.beq k 0 then hi else 191)
theorem okb_succ (lo hi k b : Nat) : okb lo hi (k + 1) b = okb 128 191 k b := by
  unfold okb
  rw [show Nat.beq (k + 1) 0 = false from rfl]
  cases Nat.beq k 0 <;> rfl
theorem tail_true : ∀ {m lo hi : Nat} {l : List UInt8}, tail m lo hi l = true → ∀ k < m, k < l.length ∧ okb lo hi k (g l k) = true
  | 0, _, _, _, _, k, h => absurd h (Nat.not_lt_zero k)
  | m + 1, _, _, [], h, _, _ => by cases h
  | m + 1, lo, hi, b :: l, h, k, hk => by
    simp only [tail, Bool.and_eq_true] at h
    cases k with
    | zero => exact ⟨by simp, by simp only [okb, Nat.beq_refl, cond_true, g, List.getD_cons_zero, Bool.and_eq_true]; exact h.1⟩
    | succ k =>
      obtain ⟨h1, h2⟩ := tail_true h.2 k (by omega)
      refine ⟨by simpa using h1, ?_⟩
      rw [okb_succ]
      exact h2
theorem tail_false : ∀ {m lo hi : Nat} {l : List UInt8}, tail m lo hi l = false → m ≤ l.length → ∃ k < m, okb lo hi k (g l k) = false ∧ ∀ j < k, okb lo hi j (g l j) = true
  | 0, _, _, _, h, _ => by cases h
  | m + 1, _, _, [], _, h => absurd h (by simp)
  | m + 1, lo, hi, b :: l, h, hl => by
    simp only [tail] at h
    cases h1 : (Nat.ble lo b.toNat && Nat.ble b.toNat hi) with
    | false => exact ⟨0, by omega, by simp only [okb, Nat.beq_refl, cond_true, g, List.getD_cons_zero]; exact h1, fun j hj => absurd hj (Nat.not_lt_zero j)⟩
    | true =>
      rw [h1, Bool.true_and] at h
      obtain ⟨k, h2, h3, h4⟩ := tail_false h (by simpa using hl)
      refine ⟨k + 1, by omega, by rw [okb_succ]; exact h3, fun j hj => ?_⟩
      cases j with
      | zero => simp only [okb, Nat.beq_refl, cond_true, g, List.getD_cons_zero]; exact h1
      | succ j => rw [okb_succ]; exact h4 j (by omega)
theorem flat_len : ∀ {xs : List (List UInt8)}, (∀ x ∈ xs, Vr x) → xs.length ≤ (List.flatten xs).length
  | [], _ => by simp
  | x :: xs, h => by
    have := (h x List.mem_cons_self).pos
    have := flat_len fun y hy => h y (List.mem_cons_of_mem _ hy)
    simp only [List.flatten_cons, List.length_append, List.length_cons]
    omega
theorem ld3_le (c : Nat) : (ld3 c).1 ≤ 4 := by
  unfold ld3
  repeat' split
  all_goals decide
end Fld
/-- the letters where i bytes, the runes vs, are done -/
abbrev rnLt (s : ByteArray) (d : Nat × List (List UInt8)) : Ltr :=
  ⟨fun i => [.string s, .int .i64 d.1, .int .i64 s.size, .int .u8 (byteAt s d.1), .int .i64 0, .int .i64 (d.1 + 1 : Nat), .int .i64 (d.1 + 2 : Nat), .int .i64 (d.1 + 3 : Nat), .int .i64 (d.1 + 4 : Nat), .string ⟨⟨(s.data.toList.drop d.1).take (Fld.ld3 (byteAt s d.1)).1⟩⟩, .int .u8 (byteAt s (d.1 + 1)), .int .u8 (byteAt s (d.1 + 2)), .int .u8 (byteAt s (d.1 + 3))][i]?,
    fun _ _ => False,
    fun a k y => LsIs (strs (d.2 ++ bif Nat.beq a 0 then [] else [(s.data.toList.drop d.1).take (Fld.ld3 (byteAt s d.1)).1])) 9 1 k y,
    fun j k n c => n = d.2.length + (bif Nat.beq j 0 then 0 else 1) ∧ c = k, fun _ _ => False, fun _ => 0⟩
/-- .. and behind the loop -/
abbrev rnLo (s : ByteArray) (xs : List (List UInt8)) : Ltr :=
  ⟨fun i => [.string s, .int .i64 (List.flatten xs).length][i]?, fun _ _ => False, fun _ k y => LsIs (strs xs) 9 1 k y, fun _ k n c => n = xs.length ∧ c = k, fun _ _ => False, fun _ => 0⟩
section
variable {s : ByteArray} {d : Nat × List (List UInt8)} {X : Kep}
theorem rnK_ok (h : d.1 + 4 ≤ 1000000010) (k : Nat) (hk : 1 ≤ k ∧ k ≤ 4) : @OEOkX (rnLt s d) Tryz.prog X (rnK k) := by
  let L : Ltr := rnLt s d
  have : @OEOk (rnLt s d) Tryz.prog (rnK k) := by
    match k, hk with
    | 1, _ => exact @bl L _ _ _ _ _ _ rfl rfl (x_add (n := d.1) (m := 1) (by omega)) (@to_ltr L 5 _ rfl rfl)
    | 2, _ => exact @bl L _ _ _ _ _ _ rfl rfl (x_add (n := d.1) (m := 2) (by omega)) (@to_ltr L 6 _ rfl rfl)
    | 3, _ => exact @bl L _ _ _ _ _ _ rfl rfl (x_add (n := d.1) (m := 3) (by omega)) (@to_ltr L 7 _ rfl rfl)
    | 4, _ => exact @bl L _ _ _ _ _ _ rfl rfl (x_add (n := d.1) (m := 4) (by omega)) (@to_ltr L 8 _ rfl rfl)
  exact this.x
theorem rnC0_ok {r : Nat} (h : Fld.sm (byteAt s d.1) r = true) : ∀ e ∈ rnC0 r, @OEOkX (rnLt s d) Tryz.prog X e := by
  let L : Ltr := rnLt s d
  intro e he
  obtain ⟨p, hp, rfl⟩ := List.mem_map.1 he
  have hs : Fld.tst p (byteAt s d.1) = Fld.tst p r := eq_of_beq (List.all_eq_true.1 h p hp)
  rw [← hs]
  have bb : ∀ {a b : Nat}, Nat.ble a b = decide (a ≤ b) := Fld.ble_iff
  have bl' : ∀ {a b : Nat}, Nat.blt a b = decide (a < b) := by intro a b; rw [Bool.eq_iff_iff]; simp [Nat.blt_eq]
  have be : ∀ {a b : Nat}, Nat.beq a b = decide (a = b) := by intro a b; rw [Bool.eq_iff_iff]; simp
  simp only [Fld.tests, List.mem_cons, List.not_mem_nil, or_false] at hp
  rcases hp with rfl | rfl | rfl | rfl | rfl | rfl | rfl | rfl | rfl | rfl | rfl <;> first
    | exact (@bl L _ _ _ _ _ _ rfl rfl (xk_lt bl'.symm) (@to_flat L _ rfl)).x
    | exact (@bl L _ _ _ _ _ _ rfl rfl (xk_ge bb.symm) (@to_flat L _ rfl)).x
    | exact (@bl L _ _ _ _ _ _ rfl rfl (xk_le bb.symm) (@to_flat L _ rfl)).x
    | exact (@bl L _ _ _ _ _ _ rfl rfl (xk_eq be.symm) (@to_flat L _ rfl)).x
theorem rnL_ok {r : Nat} (hsz : s.size ≤ 1000000000) (hlt : d.1 < s.size) (h : Fld.sm (byteAt s d.1) r = true) : ∀ e ∈ rnL r, @OEOkX (rnLt s d) Tryz.prog X e := by
  let L : Ltr := rnLt s d
  exact ac (@len_ba L 0 2 s rfl rfl).x (ac (@bll L _ _ _ _ _ _ _ rfl rfl (xk_lt (decide_eq_true hlt)) (@to_flat L _ rfl)).x (ac (@ix_ltr L 0 3 1 d.1 s rfl rfl hlt (by rw [byteAt_eq hlt]; rfl)).x
    (ac (rnK_ok (by omega) 1 (by omega)) (ac (rnK_ok (by omega) 2 (by omega)) (ac (rnK_ok (by omega) 3 (by omega)) (ac (rnK_ok (by omega) 4 (by omega)) (rnC0_ok h)))))))
theorem v_at (k : Nat) (hk : 1 ≤ k ∧ k ≤ 4) : (rnLt s d).v (4 + k) = some (.int .i64 (d.1 + k : Nat)) := by
  match k, hk with
  | 1, _ => rfl
  | 2, _ => rfl
  | 3, _ => rfl
  | 4, _ => rfl
theorem v_byte (k : Nat) (hk : 1 ≤ k ∧ k ≤ 3) : (rnLt s d).v (9 + k) = some (.int .u8 (byteAt s (d.1 + k) : Nat)) := by
  match k, hk with
  | 1, _ => rfl
  | 2, _ => rfl
  | 3, _ => rfl
theorem rnG_ok {r : Nat} (hn : (Fld.ld3 r).1 ≠ 0) {b : Bool} (hb : decide (s.size < d.1 + (Fld.ld3 r).1) = b) : @OEOkX (rnLt s d) Tryz.prog X (rnG r b) := by
  let L : Ltr := rnLt s d
  have := Fld.ld3_le r
  exact (@bll L _ _ _ _ _ _ _ (v_at (s := s) (d := d) (Fld.ld3 r).1 (by omega)) rfl (x_gt hb) (@to_flat L _ rfl)).x
theorem rnI_ok {r k : Nat} {x y : Bool} (hk : 1 ≤ k ∧ k ≤ 3) (hlt : d.1 + k < s.size) (hx : decide (byteAt s (d.1 + k) < bif Nat.beq k 1 then (Fld.ld3 r).2.1 else 128) = x) (hy : decide ((bif Nat.beq k 1 then (Fld.ld3 r).2.2 else 191) < byteAt s (d.1 + k)) = y) : ∀ e ∈ rnI r k x y, @OEOkX (rnLt s d) Tryz.prog X e := by
  let L : Ltr := rnLt s d
  exact ac (@ix_ltr L 0 (9 + k) (4 + k) (d.1 + k) s rfl (v_at k (by omega)) hlt (by rw [byteAt_eq hlt]; exact v_byte k hk)).x (ac (@bl L _ _ _ _ _ _ (v_byte (s := s) (d := d) k hk) rfl (xk_lt hx) (@to_flat L _ rfl)).x (ac (@bl L _ _ _ _ _ _ (v_byte (s := s) (d := d) k hk) rfl (xk_gt hy) (@to_flat L _ rfl)).x an))
theorem byte_g {c : UInt8} {l : List UInt8} (h : s.data.toList.drop d.1 = c :: l) (k : Nat) : byteAt s (d.1 + (k + 1)) = Fld.g l k := by
  unfold byteAt Fld.g
  have : l = s.data.toList.drop (d.1 + 1) := by
    rw [← List.drop_drop, h]
    rfl
  rw [this, List.getD_eq_getElem?_getD, List.getD_eq_getElem?_getD, List.getElem?_drop, show d.1 + 1 + k = d.1 + (k + 1) by omega]
theorem rnGood_ok {r : Nat} {c : UInt8} {l : List UInt8} (h : s.data.toList.drop d.1 = c :: l) : ∀ {m : Nat}, m ≤ 3 → (∀ k < m, k < l.length ∧ Fld.okb (Fld.ld3 r).2.1 (Fld.ld3 r).2.2 k (Fld.g l k) = true) → ∀ e ∈ rnGood r m, @OEOkX (rnLt s d) Tryz.prog X e
  | 0, _, _ => an
  | m + 1, hm, ho => by
    intro e he
    rcases List.mem_append.1 he with he | he
    · exact rnGood_ok h (by omega) (fun k hk => ho k (by omega)) e he
    · obtain ⟨h1, h2⟩ := ho m (by omega)
      have hl : s.size - d.1 = l.length + 1 := by
        have := congrArg List.length h
        rw [List.length_drop, List.length_cons] at this
        exact this
      unfold Fld.okb at h2
      simp only [Bool.and_eq_true, Fld.ble_iff, decide_eq_true_eq] at h2
      have hb : Nat.beq (m + 1) 1 = Nat.beq m 0 := rfl
      exact rnI_ok (by omega) (by omega) (by rw [byte_g h, hb]; exact decide_eq_false (by omega)) (by rw [byte_g h, hb]; exact decide_eq_false (by omega)) e he
end
theorem mem_b (b : Bool) : b ∈ ([false, true] : List Bool) := by cases b <;> simp
theorem inf_string : (match Tryz.prog.info? 9 with | some i => (match i.zero with | some z => veqn 4 z (.string ⟨#[]⟩) | none => false) && Nat.beq i.size 1 && Nat.ble i.bytes 10000 | none => false) = true := by kernel_rfl
theorem inf_str : ∃ i, Tryz.prog.info? 9 = some i ∧ i.zero = some (.string ⟨#[]⟩) ∧ i.size = 1 ∧ i.bytes ≤ 10000 := by
  have h := inf_string
  cases hi : Tryz.prog.info? 9 with
  | none => rw [hi] at h; cases h
  | some i =>
    rw [hi] at h
    dsimp only at h
    simp only [Bool.and_eq_true] at h
    refine ⟨i, rfl, ?_, Nat.eq_of_beq_eq_true h.1.2, Nat.le_of_ble_eq_true h.2⟩
    cases hz : i.zero with
    | none => rw [hz] at h; cases h.1.1
    | some z =>
      rw [hz] at h
      rw [@veqn_eq noLtr _ _ _ h.1.1]
/-- the loop: xs are the text's runes, rest begins with none -/
theorem rn_ce (s : ByteArray) (hsz : s.size ≤ 1000000) (xs : List (List UInt8)) (rest : List UInt8) (he : s.data.toList = List.flatten xs ++ rest) (hv : ∀ x ∈ xs, Fld.Vr x) (hr : Fld.step rest = 0) (w : World) : @CEOk (rnLo s xs) Tryz.prog 64 (kep w) 64 (rnC (!rest.isEmpty) (!xs.isEmpty)) := by
  have hsl : s.data.toList.length = s.size := rfl
  refine @ce_of Tryz.prog 64 (kep w) 64 (rnLo s xs) (Nat × List (List UInt8)) (fun d => rnLt s d) (fun d => rnS (!d.2.isEmpty)) (fun d => s.size - d.1) (fun d => ∃ todo, d.2 ++ todo = xs ∧ s.data.toList.drop d.1 = List.flatten todo ++ rest ∧ d.1 = (List.flatten d.2).length ∧ d.1 ≤ s.size) (rnC (!rest.isEmpty) (!xs.isEmpty)) rnB rfl ?_ (0, []) ⟨xs, rfl, he, rfl, Nat.zero_le _⟩ rfl (traL_ok (ac (fl_go rfl rfl rfl) (ac (lt_go rfl) an)) an an) an
  rintro ⟨i, vs⟩ ⟨todo, h1, h2, h3, h4⟩ ro k E a w' h
  have h1 : vs ++ todo = xs := h1
  have h2 : s.data.toList.drop i = List.flatten todo ++ rest := h2
  have h3 : i = (List.flatten vs).length := h3
  have h4 : i ≤ s.size := h4
  let L : Ltr := rnLt s (i, vs)
  let g : Bool := !vs.isEmpty
  have hT0 : TraOk L (rnLo s xs) (bif g then ⟨[], [(0, 0)], [], [], [(0, 0)], []⟩ else traL [] [] []) ∨ todo ≠ [] := by
    by_cases ht : todo = []
    · subst ht
      rw [List.append_nil] at h1
      left
      cases g with
      | false => exact traL_ok an an an
      | true => exact ⟨an, ac ⟨rfl, fun k n c hh => ⟨by rw [← h1]; exact hh.1, hh.2⟩⟩ an, an, an, ac (fun k y hh => by rw [← h1]; have hh : LsIs (strs (vs ++ [])) _ 1 k y := hh; rw [List.append_nil] at hh; exact hh) an, an⟩
    · exact .inr ht
  cases todo with
  | nil =>
    rw [List.append_nil] at h1
    subst h1
    have hT := hT0.resolve_right (fun h => h rfl)
    cases rest with
    | nil =>
      have hie : i = s.size := by
        have := congrArg List.length h2
        rw [List.length_drop] at this
        simp at this
        omega
      refine r_out (by intro h; cases h) (toldG L (ac (@len_ba L 0 2 s rfl rfl).x (ac (@bll L _ _ _ _ _ _ _ rfl rfl (xk_lt (decide_eq_false (by omega))) (@to_flat L _ rfl)).x an)) an an an hT (by intro p hp; cases hg : g <;> rw [hg] at hp <;> cases hp) (List.all_eq_true.1 rn_end g (mem_b g)) h)
    | cons c l =>
      have h2 : s.data.toList.drop i = c :: l := h2
      have hlen : s.size - i = l.length + 1 := by
        have := congrArg List.length h2
        rw [List.length_drop, List.length_cons] at this
        exact this
      have hlt : i < s.size := by omega
      have hc : c.toNat = byteAt s i := by
        have := Fld.get_g h2 0
        unfold byteAt
        rw [List.getD_eq_getElem?_getD, show s.data.toList[i]? = some c by rw [show i = i + 0 from rfl, ← List.getElem?_drop, h2]; rfl]
        rfl
      obtain ⟨r, hrr, hsm, hld⟩ := Fld.rep_of (c := byteAt s i) (by rw [← hc]; exact UInt8.toNat_lt c)
      have hLo := rnL_ok (X := kep w) (s := s) (d := (i, vs)) (by omega) hlt hsm
      have hTb : TraOk L (rnLo s vs) (rnTb g) := by
        have e1 : @Eq (Option Value) (L.v 1) ((rnLo s vs).v 1) := by
          show some (Value.int .i64 ((i : Nat) : Int)) = some (.int .i64 ((List.flatten vs).length : Int))
          rw [h3]
        cases hg : g with
        | false => exact traL_ok (ac (lt_go e1) an) an an
        | true =>
          have := hT
          rw [hg] at this
          exact ⟨ac (lt_go e1) an, this.s, an, an, this.o, an⟩
      have hq : Fld.step (c :: l) = 0 := hr
      have hge : ∀ p ∈ (rnTb g).g, p.1.live = true := by intro p hp; cases hg : g <;> rw [hg] at hp <;> cases hp
      have hld' : Fld.ld3 c.toNat = Fld.ld3 r := by rw [hc]; exact hld
      have bad0 := fun (hO : ∀ e ∈ rnBad0 r, @OEOkX L Tryz.prog (kep w) e) => toldG L (ro := ro) (k := k) hO an an an hTb hge (List.all_eq_true.1 (List.all_eq_true.1 rn_bad0 r hrr) g (mem_b g)) h
      by_cases hn : (Fld.ld3 r).1 = 0
      · refine r_out (by intro h; cases h) (bad0 ?_)
        unfold rnBad0
        rw [hn]
        exact hLo
      · by_cases hsh : s.size < i + (Fld.ld3 r).1
        · refine r_out (by intro h; cases h) (bad0 ?_)
          unfold rnBad0
          rw [show Nat.beq (Fld.ld3 r).1 0 = false by cases hb : Nat.beq (Fld.ld3 r).1 0 with | false => rfl | true => exact absurd (Nat.eq_of_beq_eq_true hb) hn]
          exact ac (rnG_ok hn (decide_eq_true hsh)) hLo
        · have hst := @Fld.step_at c l (Fld.ld3 r).1 (Fld.ld3 r).2.1 (Fld.ld3 r).2.2 hld'
          rw [hst] at hq
          have htl : Fld.tail ((Fld.ld3 r).1 - 1) (Fld.ld3 r).2.1 (Fld.ld3 r).2.2 l = false := by
            cases hb : Fld.tail ((Fld.ld3 r).1 - 1) (Fld.ld3 r).2.1 (Fld.ld3 r).2.2 l with
            | false => rfl
            | true => rw [hb] at hq; exact absurd hq hn
          obtain ⟨kk, k1, k2, k3⟩ := Fld.tail_false htl (by omega)
          have hle := Fld.ld3_le r
          have k2' := k2
          unfold Fld.okb at k2'
          simp only [Bool.and_eq_false_iff, Fld.ble_iff, decide_eq_false_iff_not] at k2'
          have hb1 : Nat.beq (kk + 1) 1 = Nat.beq kk 0 := rfl
          have key : ∃ x : Bool, ∀ e ∈ rnI r (kk + 1) x (!x), @OEOkX L Tryz.prog (kep w) e := by
            by_cases hx : byteAt s (i + (kk + 1)) < bif Nat.beq kk 0 then (Fld.ld3 r).2.1 else 128
            · refine ⟨true, rnI_ok (d := (i, vs)) (by omega) (by show i + (kk + 1) < _; omega) (by rw [hb1]; exact decide_eq_true hx) ?_⟩
              rw [hb1]
              refine decide_eq_false ?_
              have hbd : (bif Nat.beq kk 0 then (Fld.ld3 r).2.1 else 128) ≤ (bif Nat.beq kk 0 then (Fld.ld3 r).2.2 else 191) + 1 := by
                have : (Fld.reps.all fun r => Nat.ble (Fld.ld3 r).2.1 (Fld.ld3 r).2.2) = true := by kernel_rfl
                have := Nat.le_of_ble_eq_true (List.all_eq_true.1 this r hrr)
                cases Nat.beq kk 0
                · show 128 ≤ 191 + 1; omega
                · show (Fld.ld3 r).2.1 ≤ (Fld.ld3 r).2.2 + 1; omega
              have hx' : byteAt s ((i, vs).1 + (kk + 1)) < bif Nat.beq kk 0 then (Fld.ld3 r).2.1 else 128 := hx
              omega
            · refine ⟨false, rnI_ok (d := (i, vs)) (by omega) (by show i + (kk + 1) < _; omega) (by rw [hb1]; exact decide_eq_false hx) ?_⟩
              rw [hb1]
              refine decide_eq_true ?_
              have e1 := byte_g (d := (i, vs)) h2 kk
              rw [e1]
              have hx' : ¬ byteAt s ((i, vs).1 + (kk + 1)) < bif Nat.beq kk 0 then (Fld.ld3 r).2.1 else 128 := hx
              rw [e1] at hx'
              omega
          obtain ⟨x, hx⟩ := key
          have hO : ∀ e ∈ rnBad r (kk + 1) x, @OEOkX L Tryz.prog (kep w) e := by
            intro e he
            unfold rnBad at he
            rw [Nat.add_sub_cancel] at he
            rcases List.mem_append.1 he with he | he
            · rcases List.mem_append.1 he with he | he
              · exact hx e he
              · exact rnGood_ok (d := (i, vs)) h2 (by omega) (fun j hj => ⟨by omega, k3 j hj⟩) e he
            · exact ac (rnG_ok (d := (i, vs)) hn (decide_eq_false hsh)) hLo e he
          have hrun := List.all_eq_true.1 (List.all_eq_true.1 (List.all_eq_true.1 (List.all_eq_true.1 rn_bad r hrr) kk (List.mem_range.2 k1)) x (mem_b x)) g (mem_b g)
          exact r_out (by intro h; cases h) (toldG L hO an an an hTb hge hrun h)
  | cons x todo =>
    have hx : Fld.Vr x := hv x (by rw [← h1]; simp)
    obtain ⟨c, l0, rfl⟩ : ∃ c l0, x = c :: l0 := by
      cases x with
      | nil => exact absurd rfl hx.1
      | cons c l0 => exact ⟨c, l0, rfl⟩
    have h2' : s.data.toList.drop i = c :: (l0 ++ (List.flatten todo ++ rest)) := by
      rw [h2, List.flatten_cons, List.append_assoc]
      rfl
    have hstep : Fld.step (c :: (l0 ++ (List.flatten todo ++ rest))) = (c :: l0).length := by
      have := hx.app (List.flatten todo ++ rest)
      exact this
    have hlen : s.size - i = (l0 ++ (List.flatten todo ++ rest)).length + 1 := by
      have := congrArg List.length h2'
      rw [List.length_drop, List.length_cons] at this
      exact this
    have hlt : i < s.size := by omega
    have hc : c.toNat = byteAt s i := by
      unfold byteAt
      rw [List.getD_eq_getElem?_getD, show s.data.toList[i]? = some c by rw [show i = i + 0 from rfl, ← List.getElem?_drop, h2']; rfl]
      rfl
    obtain ⟨r, hrr, hsm, hld⟩ := Fld.rep_of (c := byteAt s i) (by rw [← hc]; exact UInt8.toNat_lt c)
    have hLo := rnL_ok (X := kep w) (s := s) (d := (i, vs)) (by omega) hlt hsm
    have hld' : Fld.ld3 c.toNat = Fld.ld3 r := by rw [hc]; exact hld
    have hst := @Fld.step_at c (l0 ++ (List.flatten todo ++ rest)) (Fld.ld3 r).1 (Fld.ld3 r).2.1 (Fld.ld3 r).2.2 hld'
    rw [hstep] at hst
    have htl : Fld.tail ((Fld.ld3 r).1 - 1) (Fld.ld3 r).2.1 (Fld.ld3 r).2.2 (l0 ++ (List.flatten todo ++ rest)) = true := by
      cases hb : Fld.tail ((Fld.ld3 r).1 - 1) (Fld.ld3 r).2.1 (Fld.ld3 r).2.2 (l0 ++ (List.flatten todo ++ rest)) with
      | true => rfl
      | false => rw [hb] at hst; cases hst
    rw [htl, cond_true] at hst
    have hn : (Fld.ld3 r).1 ≠ 0 := by rw [← hst]; simp
    have hle := Fld.ld3_le r
    have hgd := Fld.tail_true htl
    have hin : i + (Fld.ld3 r).1 ≤ s.size := by
      have := congrArg List.length h2
      rw [List.length_drop, List.flatten_cons, List.length_append, List.length_append] at this
      omega
    have hxe : (s.data.toList.drop i).take (Fld.ld3 (byteAt s i)).1 = c :: l0 := by
      rw [hld, ← hst, h2, List.flatten_cons, List.append_assoc, List.take_left']
      rfl
    have hO : ∀ e ∈ rnOk r, @OEOkX L Tryz.prog (kep w) e := by
      refine ac (@sut_ok L _ _ _ _ s i (i + (Fld.ld3 r).1) (@is_ltr L 0 _ rfl) (@is_ltr L 1 _ rfl) (@is_ltr L _ _ (v_at (s := s) (d := (i, vs)) (Fld.ld3 r).1 (by omega))) (by omega) hin (fun E => ?_)).x ?_
      · refine @to_ltr L 9 (.string ⟨⟨(s.data.toList.drop i).take (i + (Fld.ld3 r).1 - i)⟩⟩) ?_ rfl E
        rw [Nat.add_sub_cancel_left, ← hld]
        rfl
      · intro e he
        rcases List.mem_append.1 he with he | he
        · exact rnGood_ok (d := (i, vs)) h2' (by omega) hgd e he
        · exact ac (rnG_ok (d := (i, vs)) hn (decide_eq_false (by show ¬ s.size < i + _; omega))) hLo e he
    have hrun := List.all_eq_true.1 (List.all_eq_true.1 rn_ok r hrr) g (mem_b g)
    rw [show Nat.beq (Fld.ld3 r).1 0 = false by cases hb : Nat.beq (Fld.ld3 r).1 0 with | false => rfl | true => exact absurd (Nat.eq_of_beq_eq_true hb) hn, Bool.false_or] at hrun
    let d' : Nat × List (List UInt8) := (i + (Fld.ld3 r).1, vs ++ [c :: l0])
    have hs' : rnS (!d'.2.isEmpty) = rnS true := by
      have : (!d'.2.isEmpty) = true := by simp [d']
      rw [this]
    have e5 : @Eq (Option Value) (L.v (4 + (Fld.ld3 r).1)) ((rnLt s d').v 1) := v_at (s := s) (d := (i, vs)) (Fld.ld3 r).1 (by omega)
    have hT : TraOk L (rnLt s d') (rnTo r g) := by
      cases hg : g with
      | true =>
        refine ⟨ac (lt_go e5) (ac (lt_go rfl) an), ac ⟨rfl, fun k n c hh => ⟨?_, hh.2⟩⟩ an, an, an, ac (fun k y hh => ?_) an, an⟩
        · rw [hh.1]
          show vs.length + 1 = (vs ++ [_]).length + 0
          simp
        · have hh : LsIs (strs (vs ++ [(s.data.toList.drop i).take (Fld.ld3 (byteAt s i)).1])) _ 1 k y := hh
          rw [hxe] at hh
          show LsIs (strs ((vs ++ [_]) ++ [])) _ 1 k y
          rw [List.append_nil]
          exact hh
      | false =>
        have hvs : vs = [] := by
          have : (!vs.isEmpty) = false := hg
          simpa using this
        subst hvs
        refine ⟨ac (lt_go e5) (ac (lt_go rfl) an), an, ac ⟨rfl, fun k => ⟨rfl, room_big k⟩⟩ an, an, an, ac (fun E k x hh => ?_) an⟩
        obtain ⟨zs, ys, rfl, hrel, hl, hm⟩ := hh
        refine ⟨_, rfl, ?_⟩
        cases hrel with
        | cons r1 r2 =>
          cases r2
          rw [@is_ltr L 9 (.string ⟨⟨c :: l0⟩⟩) (by show some (Value.string ⟨⟨(s.data.toList.drop i).take (Fld.ld3 (byteAt s i)).1⟩⟩) = _; rw [hxe]) E _ r1]
          exact ⟨ys, rfl, hl, hm⟩
    have hM : ∀ e ∈ rnA g, @MEOk L Tryz.prog (kep w) 64 e := by
      cases hg : g with
      | false => exact an
      | true =>
        obtain ⟨inf, hinf, hz, hsz1, hby⟩ := inf_str
        refine ac (@ap_ok L 28 9 0 0 1 1 vs.length 1 1 (kep w) _ _ (strs vs) [.string ⟨⟨c :: l0⟩⟩] [Lt 9] Tryz.underlying28 hinf hz hsz1 (by omega) rfl hby (fun k y hh => ?_) rfl rfl (fun k n c hh => ⟨by rw [hh.1]; rfl, hh.2⟩) ?_ (by omega) (by simp [strs]) (strs_flat vs) rfl (fun E ys hy => ?_) rfl (fun k y hh => ?_) (fun k => ⟨rfl, rfl⟩)) an
        · have hh : LsIs (strs (vs ++ [])) _ 1 k y := hh
          rw [List.append_nil] at hh
          exact hh
        · have := Fld.flat_len (xs := vs) fun y hy => hv y (by rw [← h1]; simp [hy])
          omega
        · cases hy with
          | cons r1 r2 =>
            cases r2
            rw [@is_ltr L 9 (.string ⟨⟨c :: l0⟩⟩) (by show some (Value.string ⟨⟨(s.data.toList.drop i).take (Fld.ld3 (byteAt s i)).1⟩⟩) = _; rw [hxe]) E _ r1]
        · show LsIs (strs (vs ++ [(s.data.toList.drop i).take (Fld.ld3 (byteAt s i)).1])) _ 1 k y
          rw [hxe]
          simpa [strs] using hh
    have hge : ∀ p ∈ (rnTo r g).g, p.1.live = true := by
      intro p hp
      cases hg : g with
      | true => rw [hg] at hp; cases hp
      | false =>
        rw [hg] at hp
        obtain rfl := List.mem_singleton.1 hp
        rfl
    refine r_on d' (by rw [hs']; exact toldG L hO hM an an hT hge hrun h) ⟨todo, by rw [← h1]; simp [d'], ?_, ?_, hin⟩ (by show s.size - (i + (Fld.ld3 r).1) < s.size - i; omega)
    · show s.data.toList.drop (i + (Fld.ld3 r).1) = _
      rw [← List.drop_drop, h2, ← hst, List.flatten_cons, List.append_assoc, List.drop_left']
      rfl
    · show i + (Fld.ld3 r).1 = (List.flatten (vs ++ [c :: l0])).length
      rw [List.flatten_append, List.length_append, ← h3, ← hst]
      simp
end Go.Proofs.YtanonhannngkmaaGreatDoor
/-
  fold: the contract of the law's runes; the law's Bad.
-/
namespace Go.Proofs.YtanonhannngkmaaGreatDoor
open Go Go.RowKit
def rnV (b g : Bool) : Value := .tuple ⟨[rnO g 0, bif b then Lt 1 else .int .i64 (-1)]⟩
theorem rn_runT : (([false, true] : List Bool).all fun b => match (callEv Tryz.prog (prL []) 64 (@codeQ (orcG 64 64 [] [] [rnC b true]) Tryz.prog (prL []) 64 64 200 false) 12 [Lt 0] ⟨64, []⟩).map (fun p => (p.1, look 64 p.2.h)) with | some (v, some (.opq 0)) => veqn 6 v (rnV b true) | _ => false) = true := by kernel_rfl
theorem rn_runF : (([false, true] : List Bool).all fun b => match (callEv Tryz.prog (prL []) 64 (@codeQ (orcG 64 64 [] [] [rnC b false]) Tryz.prog (prL []) 64 64 200 false) 12 [Lt 0] ⟨64, []⟩).map (·.1) with | some v => veqn 6 v (rnV b false) | _ => false) = true := by kernel_rfl
namespace Fld
/-- where the first byte is that is none; -1: nowhere -/
def badI (xs : List (List UInt8)) (rest : List UInt8) : Int := bif rest.isEmpty then -1 else ((List.flatten xs).length : Int)
end Fld
/-- the law's runes: the runes' texts, and where the first byte is that is none -/
theorem runes_any (s : ByteArray) (hsz : s.size ≤ 1000000) (xs : List (List UInt8)) (rest : List UInt8) (he : s.data.toList = List.flatten xs ++ rest) (hv : ∀ x ∈ xs, Fld.Vr x) (hr : Fld.step rest = 0) (w : World) :
    Calls Tryz.prog 12 #[.string s] w fun e w' => ∃ V, e = .returned (.tuple #[V, .int .i64 (Fld.badI xs rest)]) ∧ Below w.heap.size w w' ∧ ((xs = [] ∧ V = .slice none 0 0) ∨ (xs ≠ [] ∧ ListAt 9 w.heap.size w' V xs)) := by
  let L : Ltr := rnLo s xs
  have hce := rn_ce s hsz xs rest he hv hr w
  have hint : ∀ {F : Ren} {u : Value}, @Rel L F (bif !rest.isEmpty then Lt 1 else .int .i64 (-1)) u → u = .int .i64 (Fld.badI xs rest) := by
    intro F u r
    unfold Fld.badI
    cases hb : rest.isEmpty with
    | true => rw [hb] at r; exact @Rel.flat_eq F L _ _ rfl r
    | false => rw [hb] at r; exact @is_ltr L 1 _ rfl F _ r
  by_cases hx : xs = []
  · have hg : (!xs.isEmpty) = false := by rw [hx]; rfl
    rw [hg] at hce
    have hrun : (callEv Tryz.prog (prL []) 64 (@codeQ (orcG 64 64 [] [] [rnC (!rest.isEmpty) false]) Tryz.prog (prL []) 64 64 200 false) 12 [Lt 0] ⟨64, []⟩).map (·.1) = some (rnV (!rest.isEmpty) false) := by
      have h := List.all_eq_true.1 rn_runF (!rest.isEmpty) (mem_b _)
      split at h
      · rename_i v hv; rw [hv, @veqn_eq noLtr _ _ _ h]
      · cases h
    refine (@symG L [] [] [rnC (!rest.isEmpty) false] [] 200 _ [Lt 0] [.string s] (rnV (!rest.isEmpty) false) w an an (ac hce an) an (.cons (.ltr rfl rfl) .nil) hrun).mono ?_
    rintro e w' ⟨v', F, rfl, rv, hb⟩
    cases rv with
    | same hf => cases hf
    | tuple rv =>
    cases rv with
    | cons r1 t1 =>
    cases t1 with
    | cons r2 t2 =>
    cases t2
    exact ⟨_, by rw [hint r2], hb, .inl ⟨hx, @Rel.flat_eq F L _ _ rfl r1⟩⟩
  · have hg : (!xs.isEmpty) = true := by
      cases xs with
      | nil => exact absurd rfl hx
      | cons a l => rfl
    rw [hg] at hce
    have hrun : SymH [] [] [rnC (!rest.isEmpty) true] (prL []) 200 12 [Lt 0] (rnV (!rest.isEmpty) true) 64 (.opq 0) := by
      unfold SymH
      have h := List.all_eq_true.1 rn_runT (!rest.isEmpty) (mem_b _)
      split at h
      · rename_i v hv; rw [hv, @veqn_eq noLtr _ _ _ h]
      · cases h
    refine (symH L 200 an an (ac hce an) (@prL_ok _ _ _ L _ _ an) (@RelL.cons L _ _ _ _ _ (.ltr rfl rfl) (@RelL.nil L _)) (Nat.le_refl 64) hrun).mono ?_
    rintro e w' ⟨v', F, b, k, rfl, rv, hb, hF, hlb, ho⟩
    obtain ⟨y, hy, hl⟩ := ho
    cases rv with
    | same hf => cases hf
    | tuple rv =>
    cases rv with
    | cons r1 t1 =>
    cases t1 with
    | cons r2 t2 =>
    cases t2
    cases r1 with
    | same hf => cases hf
    | @sll _ _ b2 k2 n c hE hs =>
      rw [hF] at hE
      obtain ⟨rfl, rfl⟩ := Prod.mk.inj (Option.some.inj hE)
      obtain ⟨rfl, rfl⟩ := hs
      exact ⟨_, by rw [hint r2]; rfl, hb, .inr ⟨hx, b, _, y, rfl, hlb, hy, hl⟩⟩
/-- the law's Bad -/
theorem lbad_run : Sym [] [(12, patP [([Lt 0], .tuple ⟨[TOP, Lt 1]⟩)])] 40 9 [Lt 0] (Lt 1) := by delta Sym; show _ = _; kernel_rfl
theorem lbad_any (s : ByteArray) (hsz : s.size ≤ 1000000) (xs : List (List UInt8)) (rest : List UInt8) (he : s.data.toList = List.flatten xs ++ rest) (hv : ∀ x ∈ xs, Fld.Vr x) (hr : Fld.step rest = 0) (w : World) :
    Calls Tryz.prog 9 #[.string s] w fun e w' => e = .returned (.int .i64 (Fld.badI xs rest)) ∧ Below w.heap.size w w' := by
  let L : Ltr := ltrL [.string s, .int .i64 (Fld.badI xs rest)]
  refine symL [.string s, .int .i64 (Fld.badI xs rest)] 40 an (ac (@patP_ok _ _ _ L _ _ (ac (fun E w' args' _ ha => ?_) an)) an) (@RelL.cons L _ _ _ _ _ (.ltr rfl rfl) (@RelL.nil L _)) (i := 1) rfl lbad_run
  cases ha with
  | cons h1 t1 =>
    cases t1
    rw [@is_ltr L 0 _ rfl E _ h1]
    exact (runes_any s hsz xs rest he hv hr w').mono fun e w2 ⟨V, h2, h3, _⟩ => ⟨_, h2, @Rel.tuple L _ _ _ (@RelL.cons L _ _ _ _ _ (@Rel.any L _ _ _) (@RelL.cons L _ _ _ _ _ (@Rel.ltr L _ 1 _ rfl rfl) (@RelL.nil L _))), h3⟩
end Go.Proofs.YtanonhannngkmaaGreatDoor
/-
  fold: Bad: where the first byte is that is no UTF-8.
-/
namespace Go.Proofs.YtanonhannngkmaaGreatDoor
open Go Go.RowKit
/-- the decoder's tables -/
def UT (w : World) : Prop := Lib.Utf8Tabs 0 1 w
theorem UT.keep {w w' : World} (h : UT w) (k : ∀ b, (kep w) b → w'.heap[b]? = (kep w).ob b) : UT w' :=
  ⟨fun c hc => cell_keep (h.1 c hc) k, fun i hi => ⟨cell_keep (h.2 i hi).1 k, cell_keep (h.2 i hi).2 k⟩⟩
theorem enc_run (b : Bool) : Sym [binE .gtr (Lt 2) (.int .i64 (1 : Nat)) (.bool b)] [(22, patP [([Lt 0], .tuple ⟨[Lt 1, Lt 2]⟩)])] 40 14 [Lt 0] (.bool b) := by
  cases b <;> (delta Sym; show _ = _; kernel_rfl)
theorem enc_any (s : ByteArray) (w : World) (hT : UT w) : Calls Tryz.prog 14 #[.string s] w fun e w' => e = .returned (.bool (decide (1 < (Lib.decodeGo s).2))) ∧ Below w.heap.size w w' := by
  let L : Ltr := ltrL [.string s, .int .i32 (Lib.decodeGo s).1, .int .i64 (Lib.decodeGo s).2]
  refine @symJ L _ _ 40 _ _ _ _ _ (ac (@bl L _ _ _ _ _ _ rfl rfl (x_gt (n := (Lib.decodeGo s).2) (m := 1) rfl) (@to_flat L _ rfl)) an) (ac (@patP_ok _ _ _ L _ _ (ac (fun E w' args' k ha => ?_) an)) an) (@RelL.cons L _ _ _ _ _ (.ltr rfl rfl) (@RelL.nil L _)) rfl (enc_run _)
  cases ha with
  | cons h1 t1 =>
    cases t1
    rw [@is_ltr L 0 _ rfl E _ h1]
    exact (Tryz.utf8_DecodeRuneInString s w' (hT.keep k)).mono fun e w2 p => ⟨_, p.1, @Rel.tuple L _ _ _ (@RelL.cons L _ _ _ _ _ (@Rel.ltr L _ 1 _ rfl rfl) (@RelL.cons L _ _ _ _ _ (@Rel.ltr L _ 2 _ rfl rfl) (@RelL.nil L _))), p.2⟩
noncomputable def bdB : Code := inLoop (loopOf Tryz.prog 8 0)
def bdS : St := ⟨fr 21 [(0, Lt 0), (6, .pointer (some ⟨64, 0, none⟩))], ⟨65, [(64, .opq 0)]⟩, []⟩
def bdX (b : Bool) : Exit := bif b then .ret else .exit 0
def bdE (b : Bool) : St := ⟨fr 21 (bif b then [(2, Lt 1)] else []), ⟨65, []⟩, []⟩
noncomputable def bdC (b : Bool) : CE := ⟨.loop bdB, traL [(Lt 0, Lt 0)] [(0, 0)] [], 65, [], bdS, bdX b, bdE b⟩
def bdN : Tra := traL [(Lt 0, Lt 0)] [(1, 0)] []
def bdL (b : Bool) : List OE := [binE .eql (Lt 2) (.int .i32 (65533 : Nat)) (.bool b), sufE 9 (Lt 0) (Lt 1) (Lt 3)]
def bdP (b : Bool) : List PE := [(14, patP [([Lt 3], .bool b)])]
theorem bd_run1 : ComG (bdL false) [nxtV 0 1 1 (Lt 2)] [] [] 60 bdB bdS .normal bdN 65 [] bdS := by show _ = _; kernel_rfl
theorem bd_run2 : ComG (bdL true) [nxtV 0 1 1 (Lt 2)] [] (bdP true) 60 bdB bdS .normal bdN 65 [] bdS := by show _ = _; kernel_rfl
theorem bd_run3 : ComG (bdL true) [nxtV 0 1 1 (Lt 2)] [] (bdP false) 60 bdB bdS .ret (traL [(Lt 1, Lt 1)] [] []) 65 [] (bdE true) := by show _ = _; kernel_rfl
theorem bd_run4 : ComG [] [endE 0] [] [] 60 bdB bdS (.exit 0) (traL [] [] []) 65 [] (bdE false) := by show _ = _; kernel_rfl
theorem bd_run5 (b : Bool) : SymG [] [rngE 9 (Lt 0) 0] [bdC b] [] 60 8 [Lt 0] (bif b then Lt 1 else .int .i64 (-1)) := by
  cases b <;> (delta SymG; show _ = _; kernel_rfl)
abbrev bdLt (s : ByteArray) (p : Nat) : Ltr := ltrO [.string s, .int .i64 p, .int .i32 (Utf8.decode s p).1, .string ⟨⟨s.data.toList.drop p⟩⟩] fun i _ y => y = .stringIter s (bif Nat.beq i 0 then p else p + (Utf8.decode s p).2)
abbrev bdLo (s : ByteArray) (n : Nat) : Ltr := ltrO [.string s, .int .i64 n] fun _ _ y => y = .stringIter s 0
namespace Fld
/-- one byte's rune is no greater than a byte -/
theorem rv_one {x : List UInt8} (h : x.length = 1) : rv x < 256 := by
  unfold rv
  rw [h]
  exact UInt8.toNat_lt _
theorem dec_vr {s : ByteArray} {p : Nat} {x y : List UInt8} (h : s.data.toList.drop p = x ++ y) (hx : Vr x) : Utf8.decode s p = (rv x, x.length) := by
  cases x with
  | nil => exact absurd rfl hx.1
  | cons c l =>
    have hs := hx.app y
    rw [dec_at (c := c) (l := l ++ y) h]
    have hs' : step (c :: (l ++ y)) = (c :: l).length := hs
    have ht : (c :: (l ++ y)).take (c :: l).length = c :: l := List.take_left' (l₁ := c :: l) (l₂ := y) rfl
    rw [hs', ht]
    rfl
theorem dec_none {s : ByteArray} {p : Nat} {c : UInt8} {l : List UInt8} (h : s.data.toList.drop p = c :: l) (hr : step (c :: l) = 0) : Utf8.decode s p = (65533, 1) := by
  rw [dec_at h, hr]
  rfl
theorem go_of {l : List UInt8} (h : l ≠ []) : Lib.decodeGo ⟨⟨l⟩⟩ = Utf8.decode ⟨⟨l⟩⟩ 0 := by
  unfold Lib.decodeGo
  rw [if_neg]
  intro h0
  exact h (List.eq_nil_of_length_eq_zero h0)
end Fld
theorem bd_ce (s : ByteArray) (xs : List (List UInt8)) (rest : List UInt8) (he : s.data.toList = List.flatten xs ++ rest) (hv : ∀ x ∈ xs, Fld.Vr x) (hr : Fld.step rest = 0) (w : World) (hT : UT w) : @CEOk (bdLo s (List.flatten xs).length) Tryz.prog 64 (kep w) 64 (bdC (!rest.isEmpty)) := by
  have hsl : s.data.toList.length = s.size := rfl
  refine @ce_of Tryz.prog 64 (kep w) 64 (bdLo s (List.flatten xs).length) Nat (fun p => bdLt s p) (fun _ => bdS) (fun p => s.size - p) (fun p => ∃ done todo, done ++ todo = xs ∧ s.data.toList.drop p = List.flatten todo ++ rest ∧ p = (List.flatten done).length ∧ p ≤ s.size) (bdC (!rest.isEmpty)) bdB rfl ?_ 0 ⟨[], xs, rfl, he, rfl, Nat.zero_le _⟩ rfl (traL_ok (ac (lt_go rfl) an) (ac (fun k y h => h) an) an) an
  rintro p ⟨done, todo, h1, h2, h3, h4⟩ ro k E a w' h
  let L : Ltr := bdLt s p
  have nx : p < s.size → ∀ e ∈ [nxtV 0 1 1 (Lt 2)], @MEOk L Tryz.prog (kep w) 64 e := fun hp => ac (@nxtV_ok L (kep w) 0 1 1 p _ _ (Lt 2) s rfl (fun k y h => h) hp rfl (@to_ltr L 2 _ rfl rfl) (fun k => rfl)) an
  have hO : p ≤ s.size → ∀ b, decide ((Utf8.decode s p).1 = 65533) = b → ∀ e ∈ bdL b, @OEOkX L Tryz.prog (kep w) e := fun hp b hb =>
    ac (@bl L _ _ _ _ _ _ rfl rfl (xk_eq hb) (@to_flat L _ rfl)).x (ac (@suf_ok L _ _ _ s p (@is_ltr L 0 _ rfl) (@is_ltr L 1 _ rfl) hp (@to_ltr L 3 _ rfl rfl)).x an)
  have hP : ∀ b, s.data.toList.drop p ≠ [] → decide (1 < (Utf8.decode s p).2) = b → ∀ e ∈ bdP b, @PEOk L Tryz.prog (kep w) 64 e := fun b hne hb =>
    ac (@p1 L (kep w) 64 _ 3 _ _ rfl rfl (fun w2 k => (enc_any _ w2 (hT.keep k)).mono fun e w3 q => ⟨by
      rw [q.1, Fld.go_of hne]
      have hd : Utf8.decode ⟨⟨s.data.toList.drop p⟩⟩ 0 = Utf8.decode s p := by
        cases hl : s.data.toList.drop p with
        | nil => exact absurd hl hne
        | cons c l =>
          rw [Fld.dec_at hl, Fld.dec_at (s := ⟨⟨c :: l⟩⟩) (p := 0) (c := c) (l := l) rfl]
      rw [hd, hb], q.2⟩)) an
  have hN : ∀ n, (Utf8.decode s p).2 = n → TraOk L (bdLt s (p + n)) bdN := fun n hn => traL_ok (ac (lt_go rfl) an) (ac (fun k y h => (by have h1 : y = .stringIter s (p + (Utf8.decode s p).2) := h; rw [hn] at h1; exact h1)) an) an
  cases todo with
  | cons x todo =>
    have hx : Fld.Vr x := hv x (by rw [← h1]; simp)
    have hpos := hx.pos
    have h2' : s.data.toList.drop p = x ++ (List.flatten todo ++ rest) := by rw [h2, List.flatten_cons, List.append_assoc]
    have hd := Fld.dec_vr h2' hx
    have hlen : s.size - p = x.length + (List.flatten todo ++ rest).length := by
      have := congrArg List.length h2'
      rw [List.length_drop, List.length_append] at this
      exact this
    have hne : s.data.toList.drop p ≠ [] := by
      rw [h2']
      intro h0
      exact hx.1 (List.append_eq_nil_iff.1 h0).1
    have hgood : ∃ done' todo', done' ++ todo' = xs ∧ s.data.toList.drop (p + x.length) = List.flatten todo' ++ rest ∧ p + x.length = (List.flatten done').length ∧ p + x.length ≤ s.size := by
      refine ⟨done ++ [x], todo, by rw [← h1]; simp, ?_, by rw [List.flatten_append, List.length_append, ← h3]; simp, by omega⟩
      rw [← List.drop_drop, h2', List.drop_left']
      rfl
    cases hq : decide ((Utf8.decode s p).1 = 65533) with
    | false => exact r_on (p + x.length) (toldG L (hO h4 false hq) (nx (by omega)) an an (hN _ (by rw [hd])) an bd_run1 h) hgood (by show s.size - (p + x.length) < s.size - p; omega)
    | true =>
      have h6 : 1 < x.length := by
        have hq' := of_decide_eq_true hq
        rw [hd] at hq'
        rcases Nat.lt_or_ge 1 x.length with h | h
        · exact h
        · have := Fld.rv_one (x := x) (by omega)
          have hq2 : Fld.rv x = 65533 := hq'
          omega
      exact r_on (p + x.length) (toldG L (hO h4 true hq) (nx (by omega)) an (hP true hne (by rw [hd]; exact decide_eq_true h6)) (hN _ (by rw [hd])) an bd_run2 h) hgood (by show s.size - (p + x.length) < s.size - p; omega)
  | nil =>
    rw [List.append_nil] at h1
    subst h1
    cases rest with
    | cons c l =>
      have h2' : s.data.toList.drop p = c :: l := h2
      have hd := Fld.dec_none h2' hr
      have hlen : s.size - p = l.length + 1 := by
        have := congrArg List.length h2'
        rw [List.length_drop, List.length_cons] at this
        exact this
      have e1 : @Eq (Option Value) (L.v 1) ((bdLo s (List.flatten done).length).v 1) := by
        show some (Value.int .i64 (p : Int)) = some (.int .i64 ((List.flatten done).length : Int))
        rw [h3]
      exact r_out (by intro h; cases h) (toldG L (hO h4 true (by rw [hd]; rfl)) (nx (by omega)) an (hP false (by rw [h2']; simp) (by rw [hd]; rfl)) (traL_ok (ac (lt_go e1) an) an an) an bd_run3 h)
    | nil =>
      have hie : ¬ p < s.size := by
        have := congrArg List.length h2
        rw [List.length_drop] at this
        simp at this
        omega
      exact r_out (by intro h; cases h) (toldG L an (ac (@end_ok L (kep w) 0 p 64 s (fun k y h => h) hie) an) an an (traL_ok an an an) an bd_run4 h)
/-- the program's Bad -/
theorem bad_any (s : ByteArray) (xs : List (List UInt8)) (rest : List UInt8) (he : s.data.toList = List.flatten xs ++ rest) (hv : ∀ x ∈ xs, Fld.Vr x) (hr : Fld.step rest = 0) (w : World) (hT : UT w) :
    Calls Tryz.prog 8 #[.string s] w fun e w' => e = .returned (.int .i64 (Fld.badI xs rest)) ∧ Below w.heap.size w w' := by
  let L : Ltr := bdLo s (List.flatten xs).length
  refine (@symG L [] [rngE 9 (Lt 0) 0] [bdC (!rest.isEmpty)] [] 60 _ [Lt 0] [.string s] _ w an (ac (@rng_ok L _ _ _ _ s (@is_ltr L 0 _ rfl) fun k => rfl) an) (ac (bd_ce s xs rest he hv hr w hT) an) an (@RelL.cons L _ _ _ _ _ (.ltr rfl rfl) (@RelL.nil L _)) (bd_run5 _)).mono ?_
  rintro e w' ⟨v', F, rfl, rv, hb⟩
  refine ⟨?_, hb⟩
  unfold Fld.badI
  cases hh : rest.isEmpty with
  | true => rw [hh] at rv; rw [@Rel.flat_eq F L _ _ rfl rv]; rfl
  | false => rw [hh] at rv; rw [@is_ltr L 1 _ rfl F _ rv]; rfl
end Go.Proofs.YtanonhannngkmaaGreatDoor
/-
  fold: Small, by rounds: bytes written in place.
-/
namespace Go.Proofs.YtanonhannngkmaaGreatDoor
open Go Go.RowKit
namespace Fld
/-- great letters and their small ones, in the list's order -/
def gs : List (Nat × Nat) := (List.range 26).map (fun i => (65 + i, 97 + i)) ++ hi
where hi : List (Nat × Nat) := [(192, 224), (194, 226), (196, 228), (198, 230), (199, 231), (200, 232), (201, 233), (202, 234), (203, 235), (206, 238), (207, 239), (212, 244), (214, 246), (338, 339), (217, 249), (219, 251), (220, 252), (376, 255), (260, 261), (262, 263), (280, 281), (321, 322), (323, 324), (211, 243), (346, 347), (377, 378), (379, 380)]
def lkIn (r : Nat) : List (Nat × Nat) → Option Nat
  | [] => none
  | p :: l => bif Nat.beq r p.1 then some p.2 else lkIn r l
def lk (r : Nat) : Option Nat := lkIn r gs
/-- a letter's bytes -/
def enc (v : Nat) : List UInt8 := bif Nat.blt v 128 then [UInt8.ofNat v] else [UInt8.ofNat (192 + v / 64), UInt8.ofNat (128 + v % 64)]
/-- a rune's bytes, small -/
def lowB (x : List UInt8) : List UInt8 := match lk (rv x) with
  | some v => enc v
  | none => x
theorem lkIn_some {r v : Nat} : ∀ {l : List (Nat × Nat)}, lkIn r l = some v → (r, v) ∈ l
  | [], h => by cases h
  | p :: l, h => by
    unfold lkIn at h
    cases hb : Nat.beq r p.1 with
    | true =>
      rw [hb] at h
      rw [Nat.eq_of_beq_eq_true hb, ← Option.some.inj h]
      exact List.mem_cons_self
    | false => rw [hb] at h; exact List.mem_cons_of_mem _ (lkIn_some h)
theorem lkIn_none {r : Nat} : ∀ {l : List (Nat × Nat)}, lkIn r l = none → ∀ p ∈ l, p.1 ≠ r
  | [], _, p, hp => by cases hp
  | q :: l, h, p, hp => by
    unfold lkIn at h
    cases hb : Nat.beq r q.1 with
    | true => rw [hb] at h; cases h
    | false =>
      rw [hb] at h
      rcases List.mem_cons.1 hp with rfl | hp
      · intro he; rw [he, Nat.beq_refl] at hb; cases hb
      · exact lkIn_none h p hp
theorem gs_fit : (gs.all fun p => (Nat.blt p.1 128 == Nat.blt p.2 128) && Nat.blt p.1 2048 && Nat.blt p.2 2048) = true := by kernel_rfl
theorem vr_head {c : UInt8} {l : List UInt8} (h : Vr (c :: l)) : (ld3 c.toNat).1 = l.length + 1 ∧ tail l.length (ld3 c.toNat).2.1 (ld3 c.toNat).2.2 l = true := by
  have h2 := h.2
  have hs := @step_at c l (ld3 c.toNat).1 (ld3 c.toNat).2.1 (ld3 c.toNat).2.2 rfl
  rw [hs] at h2
  cases ht : tail ((ld3 c.toNat).1 - 1) (ld3 c.toNat).2.1 (ld3 c.toNat).2.2 l with
  | false => rw [ht] at h2; cases h2
  | true =>
    rw [ht, cond_true, List.length_cons] at h2
    rw [h2, Nat.add_sub_cancel] at ht
    exact ⟨h2, ht⟩
theorem ld3_cases (c : Nat) : (ld3 c = (1, 128, 191) ∧ c < 128) ∨ ld3 c = (0, 128, 191) ∨ (ld3 c = (2, 128, 191) ∧ 194 ≤ c ∧ c < 224) ∨ (ld3 c = (3, 160, 191) ∧ c = 224) ∨ (ld3 c = (3, 128, 191) ∧ 224 < c ∧ c < 240) ∨ (ld3 c = (3, 128, 159) ∧ c = 237) ∨ (ld3 c = (4, 144, 191) ∧ c = 240) ∨ (ld3 c = (4, 128, 191) ∧ 240 < c ∧ c < 244) ∨ (ld3 c = (4, 128, 143) ∧ c = 244) := by
  unfold ld3
  by_cases h1 : c < 128
  · rw [if_pos h1]; exact .inl ⟨rfl, h1⟩
  rw [if_neg h1]
  by_cases h2 : c < 194
  · rw [if_pos h2]; exact .inr (.inl rfl)
  rw [if_neg h2]
  by_cases h3 : c < 224
  · rw [if_pos h3]; exact .inr (.inr (.inl ⟨rfl, by omega, h3⟩))
  rw [if_neg h3]
  by_cases h4 : c = 224
  · rw [if_pos h4]; exact .inr (.inr (.inr (.inl ⟨rfl, h4⟩)))
  rw [if_neg h4]
  by_cases h5 : c < 237
  · rw [if_pos h5]; exact .inr (.inr (.inr (.inr (.inl ⟨rfl, by omega, by omega⟩))))
  rw [if_neg h5]
  by_cases h6 : c = 237
  · rw [if_pos h6]; exact .inr (.inr (.inr (.inr (.inr (.inl ⟨rfl, h6⟩)))))
  rw [if_neg h6]
  by_cases h7 : c < 240
  · rw [if_pos h7]; exact .inr (.inr (.inr (.inr (.inl ⟨rfl, by omega, by omega⟩))))
  rw [if_neg h7]
  by_cases h8 : c = 240
  · rw [if_pos h8]; exact .inr (.inr (.inr (.inr (.inr (.inr (.inl ⟨rfl, h8⟩))))))
  rw [if_neg h8]
  by_cases h9 : c < 244
  · rw [if_pos h9]; exact .inr (.inr (.inr (.inr (.inr (.inr (.inr (.inl ⟨rfl, by omega, h9⟩)))))))
  rw [if_neg h9]
  by_cases h10 : c = 244
  · rw [if_pos h10]; exact .inr (.inr (.inr (.inr (.inr (.inr (.inr (.inr ⟨rfl, h10⟩)))))))
  rw [if_neg h10]; exact .inr (.inl rfl)
/-- how long a rune is, by its number -/
theorem rv_len {x : List UInt8} (h : Vr x) : (x.length = 1 ∧ rv x < 128) ∨ (x.length = 2 ∧ 128 ≤ rv x ∧ rv x < 2048) ∨ (3 ≤ x.length ∧ 2048 ≤ rv x) := by
  cases x with
  | nil => exact absurd rfl h.1
  | cons c l =>
    obtain ⟨h1, h2⟩ := vr_head h
    have ht := tail_true h2
    have b0 := UInt8.toNat_lt c
    have hg : ∀ k, g (c :: l) (k + 1) = g l k := fun k => rfl
    have h0 : g (c :: l) 0 = c.toNat := rfl
    have ok0 : 0 < l.length → (ld3 c.toNat).2.1 ≤ g l 0 ∧ g l 0 ≤ (ld3 c.toNat).2.2 := fun hl => by
      have := (ht 0 hl).2
      unfold okb at this
      simp only [Bool.and_eq_true, Nat.beq_refl, cond_true] at this
      exact ⟨Nat.le_of_ble_eq_true this.1, Nat.le_of_ble_eq_true this.2⟩
    rcases ld3_cases c.toNat with ⟨e, q⟩ | e | ⟨e, q⟩ | ⟨e, q⟩ | ⟨e, q⟩ | ⟨e, q⟩ | ⟨e, q⟩ | ⟨e, q⟩ | ⟨e, q⟩ <;> rw [e] at h1 ok0
    · left
      have hl : l.length = 0 := by have : 1 = l.length + 1 := h1; omega
      refine ⟨by simp [hl], ?_⟩
      unfold rv
      rw [show (c :: l).length = 1 by simp [hl]]
      exact q
    · have : 0 = l.length + 1 := h1
      omega
    · right; left
      have hl : l.length = 1 := by have : 2 = l.length + 1 := h1; omega
      obtain ⟨o1, o2⟩ := ok0 (by omega)
      have o1 : 128 ≤ g l 0 := o1
      have o2 : g l 0 ≤ 191 := o2
      refine ⟨by simp [hl], ?_⟩
      unfold rv
      rw [show (c :: l).length = 2 by simp [hl]]
      show 128 ≤ c.toNat % 32 * 64 + g l 0 % 64 ∧ c.toNat % 32 * 64 + g l 0 % 64 < 2048
      omega
    all_goals right; right
    · have hl : l.length = 2 := by have : 3 = l.length + 1 := h1; omega
      obtain ⟨o1, o2⟩ := ok0 (by omega)
      have o1 : 160 ≤ g l 0 := o1
      have o2 : g l 0 ≤ 191 := o2
      refine ⟨by simp [hl], ?_⟩
      unfold rv
      rw [show (c :: l).length = 3 by simp [hl]]
      show 2048 ≤ c.toNat % 16 * 4096 + g l 0 % 64 * 64 + g l 1 % 64
      omega
    · have hl : l.length = 2 := by have : 3 = l.length + 1 := h1; omega
      refine ⟨by simp [hl], ?_⟩
      unfold rv
      rw [show (c :: l).length = 3 by simp [hl]]
      show 2048 ≤ c.toNat % 16 * 4096 + g l 0 % 64 * 64 + g l 1 % 64
      omega
    · have hl : l.length = 2 := by have : 3 = l.length + 1 := h1; omega
      refine ⟨by simp [hl], ?_⟩
      unfold rv
      rw [show (c :: l).length = 3 by simp [hl]]
      show 2048 ≤ c.toNat % 16 * 4096 + g l 0 % 64 * 64 + g l 1 % 64
      omega
    · have hl : l.length = 3 := by have : 4 = l.length + 1 := h1; omega
      obtain ⟨o1, o2⟩ := ok0 (by omega)
      have o1 : 144 ≤ g l 0 := o1
      have o2 : g l 0 ≤ 191 := o2
      refine ⟨by simp [hl], ?_⟩
      unfold rv
      rw [show (c :: l).length = 4 by simp [hl]]
      show 2048 ≤ c.toNat % 8 * 262144 + g l 0 % 64 * 4096 + g l 1 % 64 * 64 + g l 2 % 64
      omega
    · have hl : l.length = 3 := by have : 4 = l.length + 1 := h1; omega
      refine ⟨by simp [hl], ?_⟩
      unfold rv
      rw [show (c :: l).length = 4 by simp [hl]]
      show 2048 ≤ c.toNat % 8 * 262144 + g l 0 % 64 * 4096 + g l 1 % 64 * 64 + g l 2 % 64
      omega
    · have hl : l.length = 3 := by have : 4 = l.length + 1 := h1; omega
      refine ⟨by simp [hl], ?_⟩
      unfold rv
      rw [show (c :: l).length = 4 by simp [hl]]
      show 2048 ≤ c.toNat % 8 * 262144 + g l 0 % 64 * 4096 + g l 1 % 64 * 64 + g l 2 % 64
      omega
/-- a rune of two bytes, or one, is what its number says -/
theorem enc_rv {x : List UInt8} (h : Vr x) (hl : x.length ≤ 2) : enc (rv x) = x := by
  cases x with
  | nil => exact absurd rfl h.1
  | cons c l =>
    obtain ⟨h1, h2⟩ := vr_head h
    have ht := tail_true h2
    cases l with
    | nil =>
      have hr : rv [c] = c.toNat := rfl
      have : rv [c] < 128 := by
        rcases rv_len h with ⟨_, q⟩ | ⟨q, _⟩ | ⟨q, _⟩
        · exact q
        · cases q
        · have : 3 ≤ 1 := q; omega
      unfold enc
      rw [show Nat.blt (rv [c]) 128 = true by rw [Nat.blt_eq]; exact this, hr, cond_true]
      simp
    | cons b l =>
      cases l with
      | cons d l => exact absurd hl (by simp)
      | nil =>
        have hr : rv [c, b] = c.toNat % 32 * 64 + b.toNat % 64 := rfl
        have h3 := rv_len h
        have hlt : ¬ rv [c, b] < 128 := by
          rcases h3 with ⟨q, _⟩ | ⟨_, q, _⟩ | ⟨q, _⟩
          · cases q
          · omega
          · have : 3 ≤ 2 := q; omega
        have hc : 194 ≤ c.toNat ∧ c.toNat < 224 ∧ 128 ≤ b.toNat ∧ b.toNat ≤ 191 := by
          have o := (ht 0 (by simp)).2
          unfold okb at o
          simp only [Bool.and_eq_true, Nat.beq_refl, cond_true] at o
          have o1 := Nat.le_of_ble_eq_true o.1
          have o2 := Nat.le_of_ble_eq_true o.2
          have e0 : g [b] 0 = b.toNat := rfl
          rw [e0] at o1 o2
          rcases ld3_cases c.toNat with ⟨e, q⟩ | e | ⟨e, q⟩ | ⟨e, q⟩ | ⟨e, q⟩ | ⟨e, q⟩ | ⟨e, q⟩ | ⟨e, q⟩ | ⟨e, q⟩ <;> rw [e] at h1 o1 o2
          · cases h1
          · cases h1
          · exact ⟨q.1, q.2, o1, o2⟩
          all_goals cases h1
        unfold enc
        rw [show Nat.blt (rv [c, b]) 128 = false by
          cases hb : Nat.blt (rv [c, b]) 128 with
          | false => rfl
          | true => exact absurd (by simpa [Nat.blt_eq] using hb) hlt, hr, cond_false]
        have e1 : 192 + (c.toNat % 32 * 64 + b.toNat % 64) / 64 = c.toNat := by omega
        have e2 : 128 + (c.toNat % 32 * 64 + b.toNat % 64) % 64 = b.toNat := by omega
        rw [e1, e2]
        simp
theorem gs_at {r v : Nat} (h : lk r = some v) : (Nat.blt r 128 = Nat.blt v 128) ∧ r < 2048 ∧ v < 2048 := by
  have := List.all_eq_true.1 gs_fit _ (lkIn_some h)
  simp only [Bool.and_eq_true, beq_iff_eq] at this
  exact ⟨this.1.1, by simpa [Nat.blt_eq] using this.1.2, by simpa [Nat.blt_eq] using this.2⟩
theorem enc_len (v : Nat) : (enc v).length = bif Nat.blt v 128 then 1 else 2 := by
  unfold enc
  cases Nat.blt v 128 <;> rfl
theorem lowB_len {x : List UInt8} (h : Vr x) : (lowB x).length = x.length := by
  unfold lowB
  cases hk : lk (rv x) with
  | none => rfl
  | some v =>
    obtain ⟨h1, h2, h3⟩ := gs_at hk
    show (enc v).length = _
    rw [enc_len, ← h1]
    rcases rv_len h with ⟨e, q⟩ | ⟨e, q, _⟩ | ⟨_, q⟩
    · rw [e, show Nat.blt (rv x) 128 = true by rw [Nat.blt_eq]; exact q]; rfl
    · rw [e, show Nat.blt (rv x) 128 = false by
        cases hb : Nat.blt (rv x) 128 with
        | false => rfl
        | true => exact absurd (by simpa [Nat.blt_eq] using hb) (Nat.not_lt_of_le q)]; rfl
    · omega
/-- small letters -/
def lows (xs : List (List UInt8)) : List UInt8 := List.flatten (xs.map lowB)
theorem lows_len : ∀ {xs : List (List UInt8)}, (∀ x ∈ xs, Vr x) → (lows xs).length = (List.flatten xs).length
  | [], _ => rfl
  | x :: xs, h => by
    have := lows_len fun y hy => h y (List.mem_cons_of_mem _ hy)
    unfold lows at this ⊢
    rw [List.map_cons, List.flatten_cons, List.flatten_cons, List.length_append, List.length_append, this, lowB_len (h x List.mem_cons_self)]
theorem lows_app (a b : List (List UInt8)) : lows (a ++ b) = lows a ++ lows b := by
  unfold lows
  rw [List.map_append, List.flatten_append]
end Fld
end Go.Proofs.YtanonhannngkmaaGreatDoor
