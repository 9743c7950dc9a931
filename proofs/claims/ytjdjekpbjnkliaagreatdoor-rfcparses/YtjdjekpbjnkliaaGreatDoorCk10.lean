/-
  The law's Check: its inner loops, as entries.
-/
import Derived.Test.YtjdjekpbjnkliaaGreatDoorCk3
import Derived.Test.YtjdjekpbjnkliaaGreatDoorCk4
import Derived.Test.YtjdjekpbjnkliaaGreatDoorEg
import Derived.Test.YtjdjekpbjnkliaaGreatDoorWn
namespace Go.Proofs.YtjdjekpbjnkliaaGreatDoor
open Go Go.RowKit
namespace Ck
def el (A : Option Addr) (n : Nat) : Addr := (A.getD ⟨0, 0, none⟩).add n
theorem l_slG [Ltr] {t i j n c : Nat} {A : Option Addr} (ht : t = 25 ∨ t = 26) (hi : Ltr.v i = some (.slice A n c)) (hj : Ltr.v j = some (.int .i64 n)) : OEOk Tryz.prog (lenE t (Lt i) (Lt j)) :=
  lenE_ok fun o ρ a E w ho ha => by
    have e1 := is_ltr hi E _ ha
    refine ⟨.int .i64 n, ?_, .ltr hj rfl⟩
    rcases ht with rfl | rfl
    · simp only [execOp, ho]
      go_simp
    · simp only [execOp, ho]
      go_simp
theorem a_elI [Ltr] {i j k n c d : Nat} {A : Addr} (hi : Ltr.v i = some (.slice (some A) n c)) (hk : Ltr.v k = some (.int .i64 d)) (hj : Ltr.v j = some (.pointer (some (A.add d)))) (h : d < n) : OEOk Tryz.prog (iaE 25 (Lt i) (Lt k) (Lt j)) :=
  iaE_ok fun o ρ a b E w ho ha hb => by
    have e1 := is_ltr hi E _ ha
    have e2 := is_ltr hk E _ hb
    refine ⟨.pointer (some (A.add d)), ?_, .ltr hj rfl⟩
    simp only [execOp, ho, e1]
    go_simp
theorem a_elN [Ltr] {i j k n c d : Nat} {A : Addr} (hi : Ltr.v i = some (.slice (some A) n c)) (hk : Ltr.v k = some (.int .i64 d)) (hj : Ltr.v j = some (.pointer (some (A.add (d * 2))))) (h : d < n) : OEOk Tryz.prog (iaE 26 (Lt i) (Lt k) (Lt j)) :=
  iaE_ok fun o ρ a b E w ho ha hb => by
    have e1 := is_ltr hi E _ ha
    have e2 := is_ltr hk E _ hb
    refine ⟨.pointer (some (A.add (d * 2))), ?_, .ltr hj rfl⟩
    simp only [execOp, ho, e1]
    go_simp
theorem ld_nth [Ltr] {X : Kep} {i j k : Nat} {A : Addr} {x y : Int} (hi : Ltr.v i = some (.pointer (some A))) (hj : Ltr.v j = some (.int .i64 x)) (hk : Ltr.v k = some (.int .i64 y)) (h : ∀ w : World, (∀ b, X b → w.heap[b]? = X.ob b) → w.cell? A = some (.int .i64 x) ∧ w.cell? (A.add 1) = some (.int .i64 y)) :
    OEOkX Tryz.prog X (ldE 50 (Lt i) (.agg ⟨[Lt j, Lt k]⟩)) := by
  intro o ρ ρ' E hrr hf w hx
  simp only [ldE] at hf
  split at hf
  · rename_i t' a ho
    simp only [Bool.and_eq_true] at hf
    obtain ⟨h2, h4⟩ := hf
    rw [ho] at hrr
    have ra := hrr a (by simp [Op.operands])
    rw [pq_eq h4] at ra
    rw [Nat.eq_of_beq_eq_true h2] at ho
    have e1 := is_ltr hi E _ ra
    obtain ⟨hc, hd⟩ := h w hx
    refine ⟨.agg ⟨[.int .i64 x, .int .i64 y]⟩, ?_, .agg (.cons (.ltr hj rfl) (.cons (.ltr hk rfl) .nil)), fun c e => (by rw [ho] at e; cases e)⟩
    have hd' : w.cell? ⟨A.block, A.off + 1, none⟩ = some (.int .i64 y) := hd
    simp only [execOp, ho, e1]
    go_simp
  · cases hf
theorem fa_nth0 [Ltr] {i j : Nat} {A : Addr} (hi : Ltr.v i = some (.pointer (some A))) (hj : Ltr.v j = some (.pointer (some A))) : OEOk Tryz.prog (faE 50 0 (Lt i) (Lt j)) := by
  intro o ρ ρ' E hr hf w
  simp only [faE] at hf
  split at hf
  · rename_i t' a g hop
    simp only [Bool.and_eq_true] at hf
    obtain ⟨⟨h1, h2⟩, h3⟩ := hf
    rw [hop] at hr
    have ra := hr a (by simp [Op.operands])
    rw [pq_eq h3] at ra
    have e1 := is_ltr hi E _ ra
    have h1 := Nat.eq_of_beq_eq_true h1
    have h2 := Nat.eq_of_beq_eq_true h2
    subst h1 h2
    refine ⟨.pointer (some A), ?_, .ltr hj rfl, fun c e => (by rw [hop] at e; cases e)⟩
    simp only [execOp, hop, e1]
    go_simp
  · cases hf
theorem fa_nth1 [Ltr] {i j : Nat} {A : Addr} (hi : Ltr.v i = some (.pointer (some A))) (hj : Ltr.v j = some (.pointer (some (A.add 1)))) : OEOk Tryz.prog (faE 50 1 (Lt i) (Lt j)) := by
  intro o ρ ρ' E hr hf w
  simp only [faE] at hf
  split at hf
  · rename_i t' a g hop
    simp only [Bool.and_eq_true] at hf
    obtain ⟨⟨h1, h2⟩, h3⟩ := hf
    rw [hop] at hr
    have ra := hr a (by simp [Op.operands])
    rw [pq_eq h3] at ra
    have e1 := is_ltr hi E _ ra
    have h1 := Nat.eq_of_beq_eq_true h1
    have h2 := Nat.eq_of_beq_eq_true h2
    subst h1 h2
    refine ⟨.pointer (some (A.add 1)), ?_, .ltr hj rfl, fun c e => (by rw [hop] at e; cases e)⟩
    simp only [execOp, hop, e1]
    go_simp
  · cases hf
theorem lt_fl {L L' : Ltr} {i : Nat} {u : Value} (h : L.v i = some u) (hf : flat u = true) (E E' : Ren) (x : Value) (r : @Rel L E (Lt i) x) : @Rel L' E' u x := by
  rw [@is_ltr L i u h E x r]
  exact @Rel.same L' _ _ hf
abbrev lt (f iv c u : Int) (AM AD AW AP : Option Addr) (cM cD cW cP : Nat) (M D : List Int) (W : List (Int × Int)) (P : List Int) (A : Option Addr) (st i : Nat) (x z y y2 : Int) : Ltr :=
  ltrL [.int .i64 f, .int .i64 iv, .int .i64 c, .int .i64 u, .slice AM M.length cM, .slice AD D.length cD, .slice AW W.length cW, .slice AP P.length cP, .int .i64 M.length, .int .i64 D.length, .int .i64 W.length, .int .i64 P.length,
    .int .i64 i, .int .i64 (i + 1 : Nat), .int .i64 (i - 1 : Nat), .pointer (some (el A (i * st))), .int .i64 x, .pointer (some (el A ((i - 1) * st))), .int .i64 y, .int .i64 z, .pointer (some (el A ((i - 1) * st))), .int .i64 y, .pointer (some ((el A ((i - 1) * st)).add 1)), .int .i64 y2]
def res (r : Int) : Option Nat := if r = 3 then some 3 else if r = 4 then some 4 else none
theorem ints_at {w : World} {A : Option Addr} {l : List Int} (h : IntsIn w A l) {i : Nat} (hi : i < l.length) : A = some (A.getD ⟨0, 0, none⟩) ∧ w.cell? (el A (i * 1)) = some (.int .i64 (l.getD i 0)) := by
  obtain ⟨ad, rfl, -, hc⟩ := h i hi
  refine ⟨rfl, ?_⟩
  rw [Nat.mul_one, show l.getD i 0 = l[i] by simp [hi]]
  exact hc
theorem nths_at {w : World} {A : Option Addr} {l : List (Int × Int)} (h : NthsIn w A l) {i : Nat} (hi : i < l.length) : A = some (A.getD ⟨0, 0, none⟩) ∧ w.cell? (el A (i * 2)) = some (.int .i64 (l.getD i (0, 0)).1) ∧ w.cell? ((el A (i * 2)).add 1) = some (.int .i64 (l.getD i (0, 0)).2) := by
  obtain ⟨ad, rfl, -, hc, hd⟩ := h i hi
  refine ⟨rfl, ?_⟩
  rw [show l.getD i (0, 0) = l[i] by simp [hi]]
  exact ⟨hc, hd⟩
section
variable {w : World} {f : Nat} {iv c u : Int} {AM AD AW AP : Option Addr} {cM cD cW cP : Nat} {M D : List Int} {W : List (Int × Int)} {P : List Int}
set_option maxRecDepth 4000 in
theorem num_ce (hf : f < 4) {k js jn : Nat} (hk : k = 0 ∨ k = 1 ∨ k = 3) (hjs : sl k = Lt js) (hjn : ln k = Lt jn) {A : Option Addr} {l : List Int} {cp : Nat} {p : Int → Bool} (hl : l.length ≤ maxLen) (hI : IntsIn w A l)
    (hp : ∀ x, p x = !(out x (most k) || Nat.beq k 0 && decide (x < 0)))
    (hs : ∀ i x y, (lt f iv c u AM AD AW AP cM cD cW cP M D W P A 1 i x 0 y 0).v js = some (.slice A l.length cp)) (hn : ∀ i x y, (lt f iv c u AM AD AW AP cM cD cW cP M D W P A 1 i x 0 y 0).v jn = some (.int .i64 l.length)) {x0 z0 y0 y20 : Int} {A0 : Option Addr} {st0 : Nat} :
    @CEOk (lt f iv c u AM AD AW AP cM cD cW cP M D W P A0 st0 0 x0 z0 y0 y20) Tryz.prog 64 (kep w) 64 (ce f k (res (Rul.step p Rul.cmpI l 0))) := by
  unfold maxLen at hl
  have hmost : most k ≤ 1000 := by rcases hk with rfl | rfl | rfl <;> decide
  refine @ce_of Tryz.prog 64 (kep w) 64 (lt f iv c u AM AD AW AP cM cD cW cP M D W P A0 st0 0 x0 z0 y0 y20) Nat (fun i => lt f iv c u AM AD AW AP cM cD cW cP M D W P A 1 i (l.getD i 0) 0 (l.getD (i - 1) 0) 0) (fun _ => head (Lt 0) k) (fun i => l.length - i) (fun i => i ≤ l.length ∧ Rul.step p Rul.cmpI l 0 = Rul.step p Rul.cmpI l i) (ce f k (res (Rul.step p Rul.cmpI l 0))) lp rfl ?_ 0 ⟨Nat.zero_le _, rfl⟩ rfl (traL_ok (ac (fl_go rfl rfl rfl) (ac (fl_go rfl rfl rfl) (ids_ok ?_))) an an) an
  · rintro i ⟨hi, hst⟩ ro kk E a w' h
    let L : Ltr := lt f iv c u AM AD AW AP cM cD cW cP M D W P A 1 i (l.getD i 0) 0 (l.getD (i - 1) 0) 0
    by_cases hlt : i < l.length
    · obtain ⟨hA, hc0⟩ := ints_at hI hlt
      have h15 : L.v 15 = some (.pointer (some ((A.getD ⟨0, 0, none⟩).add i))) := by show some (Value.pointer (some (el A (i * 1)))) = _; rw [Nat.mul_one]; rfl
      have hsl : L.v js = some (.slice (some (A.getD ⟨0, 0, none⟩)) l.length cp) := by rw [← hA]; exact hs _ _ _
      have hx : ∀ cc pp, decide (l.getD i 0 < 0) = cc → decide (0 < i) = pp → ∀ e ∈ o1 k cc pp, @OEOkX L Tryz.prog (kep w) e := by
        intro cc pp hcc hpp
        unfold o1
        rw [hjs, hjn]
        exact ac (@ll L _ 12 jn _ _ _ _ rfl (hn _ _ _) (xi_lt (decide_eq_true (by omega))) (@to_flat L _ rfl)).x (ac (@a_elI L js 15 12 _ _ _ _ hsl rfl h15 hlt).x (ac (@ld_ok L (kep w) _ 15 _ _ _ (by kernel_rfl) rfl (@to_ltr L 16 _ rfl rfl) fun w2 q => cell_keep hc0 q)
          (ac (@li L _ 16 _ _ _ _ rfl rfl (xi_lt hcc) (@to_flat L _ rfl)).x (ac (@li L _ 12 _ _ _ _ rfl rfl (xi_gt (by rw [← hpp]; simp)) (@to_flat L _ rfl)).x (ac (@li L _ 12 _ _ _ _ rfl rfl (xi_add (c := ((i + 1 : Nat) : Int)) (by omega) (by omega)) (@to_ltr L 13 _ rfl rfl)).x an)))))
      have hy : ∀ qq, 0 < i → decide (l.getD (i - 1) 0 ≥ l.getD i 0) = qq → ∀ e ∈ o2 k qq, @OEOkX L Tryz.prog (kep w) e := by
        intro qq h0 hqq
        obtain ⟨-, hd0⟩ := ints_at hI (i := i - 1) (by omega)
        have h17 : L.v 17 = some (.pointer (some ((A.getD ⟨0, 0, none⟩).add (i - 1)))) := by show some (Value.pointer (some (el A ((i - 1) * 1)))) = _; rw [Nat.mul_one]; rfl
        unfold o2
        rw [hjs]
        exact ac (@li L _ 12 _ _ _ _ rfl rfl (xi_sub (c := ((i - 1 : Nat) : Int)) (by omega) (by omega)) (@to_ltr L 14 _ rfl rfl)).x (ac (@a_elI L js 17 14 _ _ _ _ hsl rfl h17 (by omega)).x (ac (@ld_ok L (kep w) _ 17 _ _ _ (by kernel_rfl) rfl (@to_ltr L 18 _ rfl rfl) fun w2 q => cell_keep hd0 q)
          (ac (@ll L _ 18 16 _ _ _ _ rfl rfl (xi_ge hqq) (@to_flat L _ rfl)).x an)))
      have hW : ∀ b, out (l.getD i 0) (most k) = b → ∀ e ∈ pe (most k) b, @PEOk L Tryz.prog (kep w) 64 e := fun b hb =>
        ac (@pg1 L _ _ _ _ _ _ _ (@rl_l L 16 _ _ _ rfl (@rl_f L _ _ _ rfl (@rl_nil L))) (@to_flat L _ rfl) fun w2 _ => same_w (by rw [← hb]; exact outside_any _ _ w2 (by omega) (by omega))) an
      have hap : ∀ {O O' : List OE}, (∀ e ∈ O, @OEOkX L Tryz.prog (kep w) e) → (∀ e ∈ O', @OEOkX L Tryz.prog (kep w) e) → ∀ e ∈ O ++ O', @OEOkX L Tryz.prog (kep w) e := fun h1 h2 e he => (List.mem_append.1 he).elim (h1 e) (h2 e)
      have hgd : l.getD i 0 = l[i] := by simp [hlt]
      have hk3 : k ∈ ([0, 1, 3] : List Nat) := by rcases hk with rfl | rfl | rfl <;> simp
      have hpx := hp (l.getD i 0)
      generalize hb : out (l.getD i 0) (most k) = b at hW hpx
      generalize hcc : decide (l.getD i 0 < 0) = cc at hx hpx
      cases hbad : (b || Nat.beq k 0 && cc) with
      | true =>
        rw [hbad] at hpx
        have hr : Rul.step p Rul.cmpI l i = 3 := Rul.step_range hlt (by rw [← hgd]; exact hpx)
        have hrun : ∀ pp, rA k b cc pp = true := by
          intro pp
          have h1 := run_out
          simp only [Bool.and_eq_true] at h1
          cases b with
          | true => exact List.all_eq_true.1 (List.all_eq_true.1 (List.all_eq_true.1 h1.1 k hk3) cc (bools_mem _)) pp (bools_mem _)
          | false =>
            simp only [Bool.false_or, Bool.and_eq_true] at hbad
            rw [Nat.eq_of_beq_eq_true hbad.1, hbad.2]
            exact List.all_eq_true.1 h1.2 pp (bools_mem _)
        rw [hst, hr]
        by_cases h0 : 0 < i
        · have e := hrun true
          have e2 := List.all_eq_true.1 e (decide (l.getD (i - 1) 0 ≥ l.getD i 0)) (bools_mem _)
          exact r_out (by intro h; cases h) (toldG L (hap (hx cc true rfl (decide_eq_true h0)) (hy _ h0 rfl)) (ins1 L) an (hW b rfl) (traL_ok an an an) an e2 h)
        · have e := hrun false
          exact r_out (by intro h; cases h) (toldG L (hx cc false rfl (decide_eq_false h0)) (ins1 L) an (hW b rfl) (traL_ok an an an) an e h)
      | false =>
        rw [hbad] at hpx
        have hpx' : p l[i] = true := by rw [← hgd]; exact hpx
        have hbf : b = false := by cases b with
          | false => rfl
          | true => cases hbad
        subst hbf
        have hon : ∀ pp, rC k cc pp = true := by
          intro pp
          have h1 := run_on
          simp only [Bool.and_eq_true] at h1
          rcases hk with rfl | rfl | rfl
          · have : cc = false := hbad
            subst this
            exact List.all_eq_true.1 h1.1 pp (bools_mem _)
          · exact List.all_eq_true.1 (List.all_eq_true.1 (List.all_eq_true.1 h1.2 1 (by simp)) cc (bools_mem _)) pp (bools_mem _)
          · exact List.all_eq_true.1 (List.all_eq_true.1 (List.all_eq_true.1 h1.2 3 (by simp)) cc (bools_mem _)) pp (bools_mem _)
        have next : Rul.step p Rul.cmpI l 0 = Rul.step p Rul.cmpI l (i + 1) → i + 1 ≤ l.length ∧ Rul.step p Rul.cmpI l 0 = Rul.step p Rul.cmpI l (i + 1) := fun q => ⟨hlt, q⟩
        have tr : ∀ q ∈ nxt, ∀ (E E' : Ren) (x : Value), @Rel L E q.1 x → @Rel (lt f iv c u AM AD AW AP cM cD cW cP M D W P A 1 (i + 1) (l.getD (i + 1) 0) 0 (l.getD (i + 1 - 1) 0) 0) E' q.2 x :=
          ac (lt_go rfl) (ids_ok (ac rfl (ac rfl (ac rfl (ac rfl (ac rfl (ac rfl (ac rfl (ac rfl (ac rfl (ac rfl (ac rfl (ac rfl an)))))))))))))
        by_cases h0 : 0 < i
        · have hg1 : l.getD (i - 1) 0 = l[i - 1]'(by omega) := by rw [List.getD_eq_getElem?_getD, List.getElem?_eq_getElem (by omega)]; rfl
          by_cases hq : l.getD (i - 1) 0 ≥ l.getD i 0
          · have hr : Rul.step p Rul.cmpI l i = 4 := Rul.step_order hlt hpx' h0 (by
              have := @Rul.cmpI_neg (l[i - 1]'(by omega)) l[i]
              rw [hg1, hgd] at hq
              omega)
            rw [hst, hr]
            have e : rB k cc = true := by
              have h1 := run_late
              simp only [Bool.and_eq_true] at h1
              rcases hk with rfl | rfl | rfl
              · have : cc = false := hbad
                subst this
                exact h1.1
              · exact List.all_eq_true.1 (List.all_eq_true.1 h1.2 1 (by simp)) cc (bools_mem _)
              · exact List.all_eq_true.1 (List.all_eq_true.1 h1.2 3 (by simp)) cc (bools_mem _)
            exact r_out (by intro h; cases h) (toldG L (hap (hx cc true rfl (decide_eq_true h0)) (hy true h0 (decide_eq_true hq))) (ins1 L) an (hW false rfl) (traL_ok an an an) an e h)
          · have hr : Rul.step p Rul.cmpI l i = Rul.step p Rul.cmpI l (i + 1) := Rul.step_next hlt hpx' h0 (by
              have := @Rul.cmpI_neg (l[i - 1]'(by omega)) l[i]
              rw [hg1, hgd] at hq
              omega)
            exact r_on (i + 1) (toldG L (hap (hx cc true rfl (decide_eq_true h0)) (hy false h0 (decide_eq_false hq))) (ins1 L) an (hW false rfl) (traL_ok tr an an) an (hon true) h) (next (hst.trans hr)) (by show l.length - (i + 1) < l.length - i; omega)
        · have hi0 : i = 0 := by omega
          have hr : Rul.step p Rul.cmpI l i = Rul.step p Rul.cmpI l (i + 1) := by
            subst hi0
            exact Rul.step_first hlt hpx'
          exact r_on (i + 1) (toldG L (hx cc false rfl (decide_eq_false h0)) (ins1 L) an (hW false rfl) (traL_ok tr an an) an (hon false) h) (next (hst.trans hr)) (by show l.length - (i + 1) < l.length - i; omega)
    · have hr : Rul.step p Rul.cmpI l i = 0 := Rul.step_end hlt
      rw [hst, hr]
      have hk3 : k ∈ ([0, 1, 3] : List Nat) := by rcases hk with rfl | rfl | rfl <;> simp
      have e := List.all_eq_true.1 (List.all_eq_true.1 run_end k hk3) f (List.mem_range.2 hf)
      refine r_out (by intro h; cases h) (toldG L ?_ (ins1 L) an an (traL_ok (ac (lt_fl rfl rfl) (ids_ok ?_)) an an) an e h)
      · rw [hjn]
        exact ac (@ll L _ 12 jn _ _ _ _ rfl (hn _ _ _) (xi_lt (decide_eq_false (by omega))) (@to_flat L _ rfl)).x an
      · exact ac rfl (ac rfl (ac rfl (ac rfl (ac rfl (ac rfl (ac rfl (ac rfl (ac rfl (ac rfl (ac rfl an))))))))))
  · exact ac rfl (ac rfl (ac rfl (ac rfl (ac rfl (ac rfl (ac rfl (ac rfl (ac rfl (ac rfl (ac rfl an))))))))))
end
end Ck
end Go.Proofs.YtjdjekpbjnkliaaGreatDoor
