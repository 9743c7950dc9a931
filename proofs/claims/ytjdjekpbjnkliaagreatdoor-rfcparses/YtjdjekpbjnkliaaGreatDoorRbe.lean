/-
  The law's own value: the part BYDAY, its walk.
-/
import Derived.Test.YtjdjekpbjnkliaaGreatDoorRf2
import Derived.Test.YtjdjekpbjnkliaaGreatDoorRbd
namespace Go.Proofs.YtjdjekpbjnkliaaGreatDoor
open Go.RowKit

set_option maxRecDepth 100000 in
set_option maxHeartbeats 8000000 in
theorem lv_6 (rb : Nat) (cs : Array Value) (h8 : cs.size = 8) (s : List UInt8) (w : World) (hT : Tabs3 w) (hTb : ∀ wx, Exc w.heap.size rb w wx → Tabs3 wx) (hl : s.length ≤ 100000) (h6c : cs[6]? = some (.slice none 0 0)) (hB : Blk w rb 28 cs) :
    Calls Tryz.prog 23 #[.pointer (some ⟨rb, 0, none⟩), .string ⟨(Rfc.nm 6).toArray⟩, .string ⟨(s).toArray⟩] w fun e w' => ∃ v, e = .returned v ∧ (v = .bool (Rfc.plistN s).isSome ∧ (∀ y, Rfc.plistN s = some y → ∃ A cap, OwnN w' w.heap.size (.slice A y.length cap) y ∧ Blk w' rb 28 (cs.setIfInBounds 6 (.slice A y.length cap))) ∧ Exc w.heap.size rb w w') := by
  refine calls_of_wp Tryz.func23 (show Tryz.f23.body = some lvBody from rfl) ?_
  generalize hAA : (Act.mk (#[.pointer (some ⟨rb, 0, none⟩), .string ⟨(Rfc.nm 6).toArray⟩, .string ⟨(s).toArray⟩] ++ Array.replicate (Tryz.f23.ntmps - (#[.pointer (some ⟨rb, 0, none⟩), .string ⟨(Rfc.nm 6).toArray⟩, .string ⟨(s).toArray⟩] : Array Value).size) undef) []) = a
  have hs : a.tmps.size = 217 := by rw [← hAA]; simp [Tryz.ntmps23]
  have hd : a.defers = [] := by rw [← hAA]
  have h0 : a.tmps.getD 0 undef = .pointer (some ⟨rb, 0, none⟩) := by rw [← hAA]; simp
  have h1 : a.tmps.getD 1 undef = .string ⟨(Rfc.nm 6).toArray⟩ := by rw [← hAA]; simp
  have h2 : a.tmps.getD 2 undef = .string ⟨(s).toArray⟩ := by rw [← hAA]; simp
  clear hAA
  have kk := (((kn hs hd).p h0).p h1).p h2; clear hs hd h0 h1 h2
  suffices hq : ∀ Q : Exit → Act → World → Prop, Blind Q → (∀ (a' : Act) (w' : World), (bodyPost Tryz.prog Tryz.f23 fun e w' => ∃ v, e = .returned v ∧ (v = .bool (Rfc.plistN s).isSome ∧ (∀ y, Rfc.plistN s = some y → ∃ A cap, OwnN w' w.heap.size (.slice A y.length cap) y ∧ Blk w' rb 28 (cs.setIfInBounds 6 (.slice A y.length cap))) ∧ Exc w.heap.size rb w w')) .ret a' w' → Q .ret a' w') → lvBody.wp Tryz.prog Q a w from Code.wp_mono NoPanic.imp (hq _ (fun _ _ _ _ q => q.elim) (fun _ _ h => h))
  intro Q hQ hfin
  unfold lvBody
  conv => arg 2; whnf
  refine wp_seq ?_
  refine wpr 1 ?_
  refine opk 0 6 (v := .bool false) kk (frY rfl (k_assign rfl rfl)) ?_; clear kk; intro a kk
  refine wp_seq ?_
  refine wpr 1 ?_
  refine opk 0 7 (v := .bool false) kk (frY rfl (k_assign rfl rfl)) ?_; clear kk; intro a kk
  refine wp_seq ?_
  refine wp_seq ?_
  refine wpr 1 ?_
  refine opk 0 21 kk (frY rfl (k_move rfl (kk.e 1 rfl))) ?_; clear kk; intro a kk
  refine wp_block ?_
  refine wp_seq ?_
  refine wpr 2 ?_
  refine opk 0 23 (v := .bool false) kk (frY rfl (o_eqStr rfl (kk.e 21 rfl) rfl (by rw [list_of_ba, list_of_ba]; decide))) ?_; clear kk; intro a kk
  refine opk 1 22 kk (frY rfl (k_assign rfl (kk.e 23 rfl))) ?_; clear kk; intro a kk
  refine wp_cond_false (kk.e 22 rfl) ?_
  refine wp_seq ?_
  refine wpr 2 ?_
  refine opk 0 35 (v := .bool false) kk (frY rfl (o_eqStr rfl (kk.e 21 rfl) rfl (by rw [list_of_ba, list_of_ba]; decide))) ?_; clear kk; intro a kk
  refine opk 1 34 kk (frY rfl (k_assign rfl (kk.e 35 rfl))) ?_; clear kk; intro a kk
  refine wp_cond_false (kk.e 34 rfl) ?_
  refine wp_seq ?_
  refine wpr 2 ?_
  refine opk 0 45 (v := .bool false) kk (frY rfl (o_eqStr rfl (kk.e 21 rfl) rfl (by rw [list_of_ba, list_of_ba]; decide))) ?_; clear kk; intro a kk
  refine opk 1 44 kk (frY rfl (k_assign rfl (kk.e 45 rfl))) ?_; clear kk; intro a kk
  refine wp_cond_false (kk.e 44 rfl) ?_
  refine wp_seq ?_
  refine wpr 2 ?_
  refine opk 0 63 (v := .bool false) kk (frY rfl (o_eqStr rfl (kk.e 21 rfl) rfl (by rw [list_of_ba, list_of_ba]; decide))) ?_; clear kk; intro a kk
  refine opk 1 62 kk (frY rfl (k_assign rfl (kk.e 63 rfl))) ?_; clear kk; intro a kk
  refine wp_cond_false (kk.e 62 rfl) ?_
  refine wp_seq ?_
  refine wpr 2 ?_
  refine opk 0 133 (v := .bool false) kk (frY rfl (o_eqStr rfl (kk.e 21 rfl) rfl (by rw [list_of_ba, list_of_ba]; decide))) ?_; clear kk; intro a kk
  refine opk 1 132 kk (frY rfl (k_assign rfl (kk.e 133 rfl))) ?_; clear kk; intro a kk
  refine wp_cond_false (kk.e 132 rfl) ?_
  refine wp_seq ?_
  refine wpr 2 ?_
  refine opk 0 143 (v := .bool false) kk (frY rfl (o_eqStr rfl (kk.e 21 rfl) rfl (by rw [list_of_ba, list_of_ba]; decide))) ?_; clear kk; intro a kk
  refine opk 1 142 kk (frY rfl (k_assign rfl (kk.e 143 rfl))) ?_; clear kk; intro a kk
  refine wp_cond_false (kk.e 142 rfl) ?_
  refine wp_seq ?_
  refine wpr 2 ?_
  refine opk 0 153 (v := .bool false) kk (frY rfl (o_eqStr rfl (kk.e 21 rfl) rfl (by rw [list_of_ba, list_of_ba]; decide))) ?_; clear kk; intro a kk
  refine opk 1 152 kk (frY rfl (k_assign rfl (kk.e 153 rfl))) ?_; clear kk; intro a kk
  refine wp_cond_false (kk.e 152 rfl) ?_
  refine wp_seq ?_
  refine wpr 2 ?_
  refine opk 0 163 (v := .bool true) kk (frY rfl (o_eqStr rfl (kk.e 21 rfl) rfl (by rw [list_of_ba, list_of_ba]; decide))) ?_; clear kk; intro a kk
  refine opk 1 162 kk (frY rfl (k_assign rfl (kk.e 163 rfl))) ?_; clear kk; intro a kk
  refine wp_cond_true (kk.e 162 rfl) ?_
  refine wp_seq ?_
  refine wp_seq ?_
  refine wpr 4 ?_
  replace kk := kk.keep [2, 0] rfl
  refine opk 0 164 kk (frY rfl (k_move rfl (kk.e 2 rfl))) ?_; clear kk; intro a kk
  have hc := split_any s 44 w hT.t hl
  refine opkc 1 165 kk hc (frY rfl (c_Split rfl rfl (kk.e 164 rfl) rfl)) ?_; clear kk hc
  rintro _ w1 a ⟨⟨rfl, q1⟩, l1⟩ F0
  have kk := F0; clear F0
  refine opk 2 166 (v := .int .i64 (Rfc.spl s 44).length) kk (frY rfl (k_lenStr rfl (kk.e 165 rfl))) ?_; clear kk; intro a kk
  refine opk 3 167 (v := .int .i64 0) kk (frY rfl (k_move rfl rfl)) ?_; clear kk; intro a kk
  refine wp_block ?_
  have hrb := hB.lt
  refine wp_loop (fun a wx => ∃ i L A cap, LpD w rb w1.heap.size cs s i L A cap a wx) (fun a _ => ((Rfc.spl s 44).length - intOf (a.tmps.getD 167 undef)).toNat) ⟨0, [], none, 0, ⟨kk.d, kk.z, (kk.g 0 rfl), (kk.g 165 rfl), (kk.g 166 rfl), (kk.g 167 rfl), Nat.zero_le _, rfl, Nat.le_refl _, OwnN.nil _ _, (show Blk _ rb _ (cs.setIfInBounds 6 (.slice none 0 0)) by rw [set_same h6c]; exact hB.below l1 hB.lt), q1, ⟨hrb, q1.lt, Nat.le_refl _⟩, Exc.of l1⟩⟩ ?_
  clear kk a
  rintro a wx ⟨i, L, A, cap, ⟨hd, hs, h0, h165, h166, h167, hi, hm, lL, hO, Br, hBp, zz, he⟩⟩
  have kk := ((((kn hs hd).p h0).p h165).p h166).p h167; clear hs hd h0 h165 h166 h167
  by_cases hlt : i < (Rfc.spl s 44).length
  · have hTx : Tabs3 wx := hTb wx he
    have hO0 := hO
    have hcell : wx.cell? ⟨w.heap.size, i, none⟩ = some (.string ⟨(((Rfc.spl s 44)[i])).toArray⟩) := by rw [hBp.cell i]; simp [hlt]
    have hspl : (Rfc.spl s 44).length ≤ 100001 := by
      rw [spl_len]
      have := Lib.countB_le ⟨#[44]⟩ (Nat.le_refl 1) _ ⟨s.toArray⟩ (Nat.le_refl _)
      rw [ba_size] at this
      omega
    have hpl : ((Rfc.spl s 44)[i]).length ≤ 100000 := Nat.le_trans (piece_le _ s 44 _ (List.getElem_mem hlt)) hl
    have e167 := (kk.g 167 rfl)
    rw [e167]
    clear e167
    refine wp_seq ?_
    refine wpr 1 ?_
    refine opk 0 168 (v := .bool true) kk (frY rfl (o_ltI rfl (kk.e 167 rfl) (kk.e 166 rfl) (decide_eq_true (by omega)))) ?_; clear kk; intro a kk
    refine wp_seq ?_
    refine wp_cond_true (kk.e 168 rfl) ?_
    refine wp_skip ?_
    refine wp_seq ?_
    refine wp_block ?_
    refine wp_seq ?_
    refine wpr 3 ?_
    refine opk 0 169 (v := .pointer (some ⟨w.heap.size, i, none⟩)) kk (frY rfl (k_atS' rfl (kk.e 165 rfl) (kk.e 167 rfl) hlt)) ?_; clear kk; intro a kk
    refine opk 1 170 (v := .string ⟨(((Rfc.spl s 44)[i])).toArray⟩) kk (frY rfl (k_loadStr rfl (kk.e 169 rfl) hcell)) ?_; clear kk; intro a kk
    refine opk 2 19 kk (frY rfl (k_assign rfl (kk.e 170 rfl))) ?_; clear kk; intro a kk
    generalize hXX : ((Rfc.spl s 44)[i]) = xx at kk hpl
    clear hcell
    by_cases hx2 : xx.length < 2
    · have hk : Rfc.plistN s = none := Rfc.mm_fail Rfc.pw _ i hlt (by rw [hXX]; exact (Rfc.pw_short hx2))
      refine wp_seq ?_
      refine wp_seq ?_
      refine wpr 3 ?_
      refine opk 0 171 kk (frY rfl (k_move rfl (kk.e 19 rfl))) ?_; clear kk; intro a kk
      refine opk 1 172 (v := .int .i64 ((⟨xx.toArray⟩ : ByteArray).size : Nat)) kk (frY rfl (k_lenT rfl (kk.e 171 rfl))) ?_; clear kk; intro a kk
      refine opk 2 173 (v := .bool true) kk (frY rfl (o_ltI rfl (kk.e 172 rfl) rfl (decide_eq_true (by rw [ba_len]; omega)))) ?_; clear kk; intro a kk
      refine wp_cond_true (kk.e 173 rfl) ?_
      refine wp_seq ?_
      refine wpr 1 ?_
      refine opk 0 6 (v := .bool false) kk (frY rfl (k_assign rfl rfl)) ?_; clear kk; intro a kk
      refine wp_ret ?_
      refine hfin a _ ?_
      exact ⟨kk.d, _, results_tmp rfl _ _ _, _, rfl, (by rw [(kk.g 6 rfl), hk]; rfl), (fun y hy => by rw [hk] at hy; cases hy), (he)⟩
    refine wp_seq ?_
    refine wp_seq ?_
    refine wpr 3 ?_
    refine opk 0 171 kk (frY rfl (k_move rfl (kk.e 19 rfl))) ?_; clear kk; intro a kk
    refine opk 1 172 (v := .int .i64 ((⟨xx.toArray⟩ : ByteArray).size : Nat)) kk (frY rfl (k_lenT rfl (kk.e 171 rfl))) ?_; clear kk; intro a kk
    refine opk 2 173 (v := .bool false) kk (frY rfl (o_ltI rfl (kk.e 172 rfl) rfl (decide_eq_false (by rw [ba_len]; omega)))) ?_; clear kk; intro a kk
    refine wp_cond_false (kk.e 173 rfl) ?_
    refine wp_skip ?_
    refine wp_seq ?_
    obtain ⟨Aw, cw, hgw, htw⟩ := hTx.lw
    have hx := fun Q hQ => regV44 a wx Q hQ xx Aw cw _ _ _ _ _ kk.d kk.z (kk.g 19 rfl) (kk.g 0 rfl) (kk.g 165 rfl) (kk.g 166 rfl) (kk.g 167 rfl) (by omega) hpl hgw htw
    refine hx _ ?z575 ?z576
    case z575 => (repeat (first | exact hQ | refine blind_then ?_ | refine blind_block ?_))
    case z576 =>
    clear kk hx hgw htw a
    intro a w4 nb n hs hd h20 h0 h19 h165 h166 h167 hNb hn hnb l4
    have kk := ((((((kn hs hd).p h20).p h0).p h19).p h165).p h166).p h167; clear hs hd h20 h0 h19 h165 h166 h167
    replace hO := hO.below l4
    replace Br := Br.below l4 Br.lt
    replace hBp := hBp.below l4 hBp.lt
    replace he := he.trans ((Exc.of l4).mono (by omega))
    have z4 := l4.size
    have hno : ∀ g', (Value.slice A L.length cap).ownBlock = some g' → g' < nb := fun g' hg' => by have := (hO0.lt g' hg').2; omega
    have hpq : (xx.take (xx.length - 2)) ++ (xx.drop (xx.length - 2)) = xx := List.take_append_drop _ _
    have hq2 : (xx.drop (xx.length - 2)).length = 2 := by rw [List.length_drop]; omega
    rcases ix_wd ⟨n, rfl, hn⟩ with ⟨k, ek, hk6, hwk⟩ | ⟨ek, hmiss⟩
    rotate_left
    ·
      obtain rfl : n = -1 := by injection ek
      have hk : Rfc.plistN s = none := Rfc.mm_fail Rfc.pw _ i hlt (by rw [hXX]; exact (by rw [← hpq]; exact Rfc.pw_none hq2 hmiss))
      refine wp_seq ?_
      refine wp_seq ?_
      refine wpr 3 ?_
      refine opk 0 182 (v := .pointer (some ⟨nb, 1, none⟩)) kk (frY rfl (k_fieldNth1 rfl (kk.e 20 rfl))) ?_; clear kk; intro a kk
      refine opk 1 183 (v := .int .i64 (-1)) kk (frY rfl (k_loadI rfl (kk.e 182 rfl) (hNb.cell 1))) ?_; clear kk; intro a kk
      refine opk 2 184 (v := .bool true) kk (frY rfl (o_ltI rfl (kk.e 183 rfl) rfl rfl)) ?_; clear kk; intro a kk
      refine wp_cond_true (kk.e 184 rfl) ?_
      refine wp_seq ?_
      refine wpr 1 ?_
      refine opk 0 6 (v := .bool false) kk (frY rfl (k_assign rfl rfl)) ?_; clear kk; intro a kk
      refine wp_ret ?_
      refine hfin a _ ?_
      exact ⟨kk.d, _, results_tmp rfl _ _ _, _, rfl, (by rw [(kk.g 6 rfl), hk]; rfl), (fun y hy => by rw [hk] at hy; cases hy), (he)⟩
    obtain rfl : n = (k : Int) := by injection ek
    clear hn ek
    have hpw : Rfc.pw xx = if (xx.take (xx.length - 2)) = [] then some (0, (k : Int)) else (Rfc.pnz (xx.take (xx.length - 2))).map (fun n => (n, (k : Int))) := by
      have := Rfc.pw_hit (xx.take (xx.length - 2)) k hk6
      rwa [hwk, hpq] at this
    refine wp_seq ?_
    refine wp_seq ?_
    refine wpr 3 ?_
    refine opk 0 182 (v := .pointer (some ⟨nb, 1, none⟩)) kk (frY rfl (k_fieldNth1 rfl (kk.e 20 rfl))) ?_; clear kk; intro a kk
    refine opk 1 183 (v := .int .i64 k) kk (frY rfl (k_loadI rfl (kk.e 182 rfl) (hNb.cell 1))) ?_; clear kk; intro a kk
    refine opk 2 184 (v := .bool false) kk (frY rfl (o_ltI rfl (kk.e 183 rfl) rfl (decide_eq_false (by omega)))) ?_; clear kk; intro a kk
    refine wp_cond_false (kk.e 184 rfl) ?_
    refine wp_skip ?_
    refine wp_seq ?_
    by_cases hx3 : 2 < xx.length
    rotate_left
    · have hp0 : (xx.take (xx.length - 2)) = [] := List.eq_nil_of_length_eq_zero (by rw [List.length_take]; omega)
      rw [if_pos hp0] at hpw
      refine wp_seq ?_
      refine wpr 3 ?_
      refine opk 0 185 kk (frY rfl (k_move rfl (kk.e 19 rfl))) ?_; clear kk; intro a kk
      refine opk 1 186 (v := .int .i64 ((⟨xx.toArray⟩ : ByteArray).size : Nat)) kk (frY rfl (k_lenT rfl (kk.e 185 rfl))) ?_; clear kk; intro a kk
      refine opk 2 187 (v := .bool false) kk (frY rfl (o_gtI rfl (kk.e 186 rfl) rfl (decide_eq_false (by rw [ba_len]; omega)))) ?_; clear kk; intro a kk
      refine wp_cond_false (kk.e 187 rfl) ?_
      refine wp_skip ?_
      have hx := fun Q hQ => regV51 a w4 Q hQ rb w1.heap.size nb w1.heap.size cs h8 L A cap 0 k _ _ _ _ kk.d kk.z (kk.g 0 rfl) (kk.g 20 rfl) (kk.g 165 rfl) (kk.g 166 rfl) (kk.g 167 rfl) (by omega) hO hno Br hNb ⟨by omega, Nat.le_refl _⟩ (by omega)
      refine hx _ ?z597 ?z598
      case z597 => (repeat (first | exact hQ | refine blind_then ?_ | refine blind_block ?_))
      case z598 =>
      clear kk hx a
      intro a w6 A' cap' hs hd h0 h165 h166 h167 hO6 Br6 zb6 e6
      have kk := ((((kn hs hd).p h0).p h165).p h166).p h167; clear hs hd h0 h165 h166 h167
      change Code.wp _ _ _ _ _
      refine wpr 2 ?_
      refine opk 0 215 (v := .int .i64 (i + 1 : Nat)) kk (frY rfl (o_addI rfl (kk.e 167 rfl) rfl (wrap_small (n := (i : Int) + 1) (by omega) (by omega)))) ?_; clear kk; intro a kk
      replace kk := kk.keep [215, 166, 165, 0] rfl
      refine opk 1 167 kk (frY rfl (k_move rfl (kk.e 215 rfl))) ?_; clear kk; intro a kk
      refine ⟨⟨i + 1, L ++ [(0, (k : Int))], A', cap', kk.d, kk.z, (kk.g 0 rfl), (kk.g 165 rfl), (kk.g 166 rfl), (kk.g 167 rfl), hlt, ?_, by simp; omega, hO6, Br6, hBp.exc e6 (by omega) (by omega), ⟨zz.1, zz.2.1, zb6⟩, he.trans (e6.mono (by omega))⟩, ?_⟩
      ·
        rw [List.take_succ_eq_append_getElem hlt]
        exact Rfc.mm_snoc Rfc.pw _ _ L (0, (k : Int)) hm (by rw [hXX]; exact hpw)
      ·
        rw [(kk.g 167 rfl)]
        simp only [intOf]
        omega
    have hp0 : (xx.take (xx.length - 2)) ≠ [] := fun e => by have := congrArg List.length e; rw [List.length_take, List.length_nil] at this; omega
    rw [if_neg hp0] at hpw
    refine wp_seq ?_
    refine wpr 3 ?_
    refine opk 0 185 kk (frY rfl (k_move rfl (kk.e 19 rfl))) ?_; clear kk; intro a kk
    refine opk 1 186 (v := .int .i64 ((⟨xx.toArray⟩ : ByteArray).size : Nat)) kk (frY rfl (k_lenT rfl (kk.e 185 rfl))) ?_; clear kk; intro a kk
    refine opk 2 187 (v := .bool true) kk (frY rfl (o_gtI rfl (kk.e 186 rfl) rfl (decide_eq_true (by rw [ba_len]; omega)))) ?_; clear kk; intro a kk
    refine wp_cond_true (kk.e 187 rfl) ?_
    refine wp_seq ?_
    refine wpr 12 ?_
    refine opk 0 189 kk (frY rfl (k_move rfl (kk.e 19 rfl))) ?_; clear kk; intro a kk
    refine opk 1 190 kk (frY rfl (k_move rfl (kk.e 19 rfl))) ?_; clear kk; intro a kk
    refine opk 2 191 (v := .int .i64 ((⟨xx.toArray⟩ : ByteArray).size : Nat)) kk (frY rfl (k_lenT rfl (kk.e 190 rfl))) ?_; clear kk; intro a kk
    refine opk 3 192 (v := .int .i64 (xx.length - 2 : Nat)) kk (frY rfl (o_subI rfl (kk.e 191 rfl) rfl ((wrap_small (by rw [ba_len]; omega) (by rw [ba_len]; omega)).trans (by rw [ba_len]; omega)))) ?_; clear kk; intro a kk
    refine opk 4 193 (v := .string ⟨((xx.take (xx.length - 2))).toArray⟩) kk (frY rfl (k_takeS rfl (kk.e 189 rfl) (kk.e 192 rfl) (by omega))) ?_; clear kk; intro a kk
    have hc := lnumber_any (xx.take (xx.length - 2)) w4
    refine opkc 5 194 kk hc (frY rfl (c_lNumber rfl rfl (kk.e 193 rfl))) ?_; clear kk hc
    rintro v9 w5 a ⟨hN, l5⟩ F0
    have kk := F0; clear F0
    replace hO := hO.below l5
    replace Br := Br.below l5 Br.lt
    replace hBp := hBp.below l5 hBp.lt
    replace hNb := hNb.below l5 hNb.lt
    replace he := he.trans ((Exc.of l5).mono (by omega))
    have z5 := l5.size
    cases hk0 : Rfc.pnum (xx.take (xx.length - 2)) with
    | none =>
      obtain ⟨yy, rfl⟩ := hN.none hk0
      refine opk 6 188 kk (frY rfl (k_move rfl (kk.e 194 rfl))) ?_; clear kk; intro a kk
      refine opk 7 195 (v := .int .i64 yy) kk (frY rfl (k_extract rfl (kk.e 188 rfl) rfl)) ?_; clear kk; intro a kk
      refine opk 8 196 (v := .bool false) kk (frY rfl (k_extract rfl (kk.e 188 rfl) rfl)) ?_; clear kk; intro a kk
      refine opk 9 197 (v := .pointer (some ⟨nb, 0, none⟩)) kk (frY rfl (k_fieldNth0 rfl (kk.e 20 rfl))) ?_; clear kk; intro a kk
      refine opL_store 10 (w' := (w5.setCell ⟨nb, 0, none⟩ (.int .i64 yy))) (by kernel_rfl) ?_ ?_
      · exact frY rfl (k_storeI rfl (kk.e 197 rfl) (kk.e 195 rfl) hNb (by simp))
      obtain ⟨w7, hw7⟩ : ∃ wn, wn = w5.setCell ⟨nb, 0, none⟩ (.int .i64 yy) := ⟨_, rfl⟩
      rw [← hw7]
      have e7 : ∀ B, Exc B nb w5 w7 := by rw [hw7]; exact exc_set w5 nb 0 _
      replace hNb : Blk w7 nb 50 #[.int .i64 yy, .int .i64 k] := by rw [hw7]; exact hNb.set 0 _
      clear hw7
      have z7 := (e7 0).size
      replace hO := hO.exc (e7 w5.heap.size) (fun g hg => ⟨(hO.lt g hg).2, by have := hno g hg; omega⟩)
      replace Br := Br.exc (e7 w5.heap.size) Br.lt (by omega)
      replace hBp := hBp.exc (e7 w5.heap.size) hBp.lt (by omega)
      replace he := he.trans (Exc.of ((e7 w.heap.size).below (by omega)))
      refine opk 11 7 kk (frY rfl (k_assign rfl (kk.e 196 rfl))) ?_; clear kk; intro a kk
      have hk : Rfc.plistN s = none := Rfc.mm_fail Rfc.pw _ i hlt (by rw [hXX]; exact (by rw [hpw, show Rfc.pnz (xx.take (xx.length - 2)) = none by unfold Rfc.pnz; rw [hk0]]; rfl))
      refine wp_seq ?_
      refine wpr 7 ?_
      refine opk 0 198 kk (frY rfl (k_move rfl (kk.e 7 rfl))) ?_; clear kk; intro a kk
      refine opk 1 199 (v := .bool true) kk (frY rfl (o_not rfl (kk.e 198 rfl) rfl)) ?_; clear kk; intro a kk
      replace kk := kk.keep [199, 7, 167, 166, 165, 0, 20] rfl
      refine opk 2 200 kk (frY rfl (k_move rfl (kk.e 199 rfl))) ?_; clear kk; intro a kk
      refine opkn 3 201 kk (frX (wanted_at (b := true) (want := false) rfl (by kernel_rfl) (kk.g 200 rfl))) ?_; clear kk; intro a kk
      refine opkn 4 202 kk (frX (wanted_at (b := true) (want := false) rfl (by kernel_rfl) (kk.g 200 rfl))) ?_; clear kk; intro a kk
      refine opkn 5 203 kk (frX (wanted_at (b := true) (want := false) rfl (by kernel_rfl) (kk.g 200 rfl))) ?_; clear kk; intro a kk
      refine opk 6 204 (v := .bool true) kk (frY rfl (k_pick_yes rfl (kk.e 200 rfl) rfl)) ?_; clear kk; intro a kk
      refine wp_cond_true (kk.e 204 rfl) ?_
      refine wp_seq ?_
      refine wpr 1 ?_
      refine opk 0 6 (v := .bool false) kk (frY rfl (k_assign rfl rfl)) ?_; clear kk; intro a kk
      refine wp_ret ?_
      refine hfin a _ ?_
      exact ⟨kk.d, _, results_tmp rfl _ _ _, _, rfl, (by rw [(kk.g 6 rfl), hk]; rfl), (fun y hy => by rw [hk] at hy; cases hy), (he)⟩
    | some y =>
      cases hz0 : (y == 0)
      · have _hz := hz0
        obtain rfl := hN.some hk0
        refine opk 6 188 kk (frY rfl (k_move rfl (kk.e 194 rfl))) ?_; clear kk; intro a kk
        refine opk 7 195 (v := .int .i64 y) kk (frY rfl (k_extract rfl (kk.e 188 rfl) rfl)) ?_; clear kk; intro a kk
        refine opk 8 196 (v := .bool true) kk (frY rfl (k_extract rfl (kk.e 188 rfl) rfl)) ?_; clear kk; intro a kk
        refine opk 9 197 (v := .pointer (some ⟨nb, 0, none⟩)) kk (frY rfl (k_fieldNth0 rfl (kk.e 20 rfl))) ?_; clear kk; intro a kk
        refine opL_store 10 (w' := (w5.setCell ⟨nb, 0, none⟩ (.int .i64 y))) (by kernel_rfl) ?_ ?_
        · exact frY rfl (k_storeI rfl (kk.e 197 rfl) (kk.e 195 rfl) hNb (by simp))
        obtain ⟨w7, hw7⟩ : ∃ wn, wn = w5.setCell ⟨nb, 0, none⟩ (.int .i64 y) := ⟨_, rfl⟩
        rw [← hw7]
        have e7 : ∀ B, Exc B nb w5 w7 := by rw [hw7]; exact exc_set w5 nb 0 _
        replace hNb : Blk w7 nb 50 #[.int .i64 y, .int .i64 k] := by rw [hw7]; exact hNb.set 0 _
        clear hw7
        have z7 := (e7 0).size
        replace hO := hO.exc (e7 w5.heap.size) (fun g hg => ⟨(hO.lt g hg).2, by have := hno g hg; omega⟩)
        replace Br := Br.exc (e7 w5.heap.size) Br.lt (by omega)
        replace hBp := hBp.exc (e7 w5.heap.size) hBp.lt (by omega)
        replace he := he.trans (Exc.of ((e7 w.heap.size).below (by omega)))
        refine opk 11 7 kk (frY rfl (k_assign rfl (kk.e 196 rfl))) ?_; clear kk; intro a kk
        refine wp_seq ?_
        refine wpr 7 ?_
        refine opk 0 198 kk (frY rfl (k_move rfl (kk.e 7 rfl))) ?_; clear kk; intro a kk
        refine opk 1 199 (v := .bool false) kk (frY rfl (o_not rfl (kk.e 198 rfl) rfl)) ?_; clear kk; intro a kk
        replace kk := kk.keep [199, 7, 167, 166, 165, 0, 20] rfl
        refine opk 2 200 kk (frY rfl (k_move rfl (kk.e 199 rfl))) ?_; clear kk; intro a kk
        refine opk 3 201 (v := .pointer (some ⟨nb, 0, none⟩)) kk (frY (wanted_at (b := false) (want := false) rfl (by kernel_rfl) (kk.g 200 rfl)) (k_fieldNth0 rfl (kk.e 20 rfl))) ?_; clear kk; intro a kk
        refine opk 4 202 (v := .int .i64 y) kk (frY (wanted_at (b := false) (want := false) rfl (by kernel_rfl) (kk.g 200 rfl)) (k_loadI rfl (kk.e 201 rfl) (hNb.cell 0))) ?_; clear kk; intro a kk
        refine opk 5 203 (v := .bool false) kk (frY (wanted_at (b := false) (want := false) rfl (by kernel_rfl) (kk.g 200 rfl)) (o_eqI rfl (kk.e 202 rfl) rfl hz0)) ?_; clear kk; intro a kk
        refine opk 6 204 (v := .bool false) kk (frY rfl (k_pick_no rfl (kk.e 200 rfl) (kk.e 203 rfl))) ?_; clear kk; intro a kk
        refine wp_cond_false (kk.e 204 rfl) ?_
        refine wp_skip ?_
        rw [show Rfc.pnz (xx.take (xx.length - 2)) = some y by unfold Rfc.pnz; rw [hk0]; simpa using hz0] at hpw
        change Code.wp _ _ _ _ _
        have hx := fun Q hQ => regV51 a w7 Q hQ rb w1.heap.size nb w1.heap.size cs h8 L A cap y k _ _ _ _ kk.d kk.z (kk.g 0 rfl) (kk.g 20 rfl) (kk.g 165 rfl) (kk.g 166 rfl) (kk.g 167 rfl) (by omega) hO hno Br hNb ⟨by omega, Nat.le_refl _⟩ (by omega)
        refine hx _ ?z675 ?z676
        case z675 => (repeat (first | exact hQ | refine blind_then ?_ | refine blind_block ?_))
        case z676 =>
        clear kk hx a
        intro a w6 A' cap' hs hd h0 h165 h166 h167 hO6 Br6 zb6 e6
        have kk := ((((kn hs hd).p h0).p h165).p h166).p h167; clear hs hd h0 h165 h166 h167
        change Code.wp _ _ _ _ _
        refine wpr 2 ?_
        refine opk 0 215 (v := .int .i64 (i + 1 : Nat)) kk (frY rfl (o_addI rfl (kk.e 167 rfl) rfl (wrap_small (n := (i : Int) + 1) (by omega) (by omega)))) ?_; clear kk; intro a kk
        replace kk := kk.keep [215, 166, 165, 0] rfl
        refine opk 1 167 kk (frY rfl (k_move rfl (kk.e 215 rfl))) ?_; clear kk; intro a kk
        refine ⟨⟨i + 1, L ++ [(y, (k : Int))], A', cap', kk.d, kk.z, (kk.g 0 rfl), (kk.g 165 rfl), (kk.g 166 rfl), (kk.g 167 rfl), hlt, ?_, by simp; omega, hO6, Br6, hBp.exc e6 (by omega) (by omega), ⟨zz.1, zz.2.1, zb6⟩, he.trans (e6.mono (by omega))⟩, ?_⟩
        ·
          rw [List.take_succ_eq_append_getElem hlt]
          exact Rfc.mm_snoc Rfc.pw _ _ L (y, (k : Int)) hm (by rw [hXX]; exact hpw)
        ·
          rw [(kk.g 167 rfl)]
          simp only [intOf]
          omega
      · have _hz := hz0
        obtain rfl := hN.some hk0
        refine opk 6 188 kk (frY rfl (k_move rfl (kk.e 194 rfl))) ?_; clear kk; intro a kk
        refine opk 7 195 (v := .int .i64 y) kk (frY rfl (k_extract rfl (kk.e 188 rfl) rfl)) ?_; clear kk; intro a kk
        refine opk 8 196 (v := .bool true) kk (frY rfl (k_extract rfl (kk.e 188 rfl) rfl)) ?_; clear kk; intro a kk
        refine opk 9 197 (v := .pointer (some ⟨nb, 0, none⟩)) kk (frY rfl (k_fieldNth0 rfl (kk.e 20 rfl))) ?_; clear kk; intro a kk
        refine opL_store 10 (w' := (w5.setCell ⟨nb, 0, none⟩ (.int .i64 y))) (by kernel_rfl) ?_ ?_
        · exact frY rfl (k_storeI rfl (kk.e 197 rfl) (kk.e 195 rfl) hNb (by simp))
        obtain ⟨w7, hw7⟩ : ∃ wn, wn = w5.setCell ⟨nb, 0, none⟩ (.int .i64 y) := ⟨_, rfl⟩
        rw [← hw7]
        have e7 : ∀ B, Exc B nb w5 w7 := by rw [hw7]; exact exc_set w5 nb 0 _
        replace hNb : Blk w7 nb 50 #[.int .i64 y, .int .i64 k] := by rw [hw7]; exact hNb.set 0 _
        clear hw7
        have z7 := (e7 0).size
        replace hO := hO.exc (e7 w5.heap.size) (fun g hg => ⟨(hO.lt g hg).2, by have := hno g hg; omega⟩)
        replace Br := Br.exc (e7 w5.heap.size) Br.lt (by omega)
        replace hBp := hBp.exc (e7 w5.heap.size) hBp.lt (by omega)
        replace he := he.trans (Exc.of ((e7 w.heap.size).below (by omega)))
        refine opk 11 7 kk (frY rfl (k_assign rfl (kk.e 196 rfl))) ?_; clear kk; intro a kk
        have hk : Rfc.plistN s = none := Rfc.mm_fail Rfc.pw _ i hlt (by rw [hXX]; exact (by rw [hpw, show Rfc.pnz (xx.take (xx.length - 2)) = none by unfold Rfc.pnz; rw [hk0]; simpa using hz0]; rfl))
        refine wp_seq ?_
        refine wpr 7 ?_
        refine opk 0 198 kk (frY rfl (k_move rfl (kk.e 7 rfl))) ?_; clear kk; intro a kk
        refine opk 1 199 (v := .bool false) kk (frY rfl (o_not rfl (kk.e 198 rfl) rfl)) ?_; clear kk; intro a kk
        replace kk := kk.keep [199, 7, 167, 166, 165, 0, 20] rfl
        refine opk 2 200 kk (frY rfl (k_move rfl (kk.e 199 rfl))) ?_; clear kk; intro a kk
        refine opk 3 201 (v := .pointer (some ⟨nb, 0, none⟩)) kk (frY (wanted_at (b := false) (want := false) rfl (by kernel_rfl) (kk.g 200 rfl)) (k_fieldNth0 rfl (kk.e 20 rfl))) ?_; clear kk; intro a kk
        refine opk 4 202 (v := .int .i64 y) kk (frY (wanted_at (b := false) (want := false) rfl (by kernel_rfl) (kk.g 200 rfl)) (k_loadI rfl (kk.e 201 rfl) (hNb.cell 0))) ?_; clear kk; intro a kk
        refine opk 5 203 (v := .bool true) kk (frY (wanted_at (b := false) (want := false) rfl (by kernel_rfl) (kk.g 200 rfl)) (o_eqI rfl (kk.e 202 rfl) rfl hz0)) ?_; clear kk; intro a kk
        refine opk 6 204 (v := .bool true) kk (frY rfl (k_pick_no rfl (kk.e 200 rfl) (kk.e 203 rfl))) ?_; clear kk; intro a kk
        refine wp_cond_true (kk.e 204 rfl) ?_
        refine wp_seq ?_
        refine wpr 1 ?_
        refine opk 0 6 (v := .bool false) kk (frY rfl (k_assign rfl rfl)) ?_; clear kk; intro a kk
        refine wp_ret ?_
        refine hfin a _ ?_
        exact ⟨kk.d, _, results_tmp rfl _ _ _, _, rfl, (by rw [(kk.g 6 rfl), hk]; rfl), (fun y hy => by rw [hk] at hy; cases hy), (he)⟩
  obtain rfl : i = (Rfc.spl s 44).length := by omega
  rw [List.take_length] at hm
  refine wp_seq ?_
  refine wpr 1 ?_
  refine opk 0 168 (v := .bool false) kk (frY rfl (o_ltI rfl (kk.e 167 rfl) (kk.e 166 rfl) (decide_eq_false (by omega)))) ?_; clear kk; intro a kk
  refine wp_seq ?_
  refine wp_cond_false (kk.e 168 rfl) ?_
  refine wp_exit ?_
  change Code.wp _ _ _ _ _
  have hk : Rfc.plistN s = some L := hm
  refine wp_seq ?_
  refine wpr 1 ?_
  refine opk 0 6 (v := .bool true) kk (frY rfl (k_assign rfl rfl)) ?_; clear kk; intro a kk
  refine wp_ret ?_
  refine hfin a _ ?_
  exact ⟨kk.d, _, results_tmp rfl _ _ _, _, rfl, (by rw [(kk.g 6 rfl), hk]; rfl), (fun y hy => by rw [hk] at hy; cases hy; exact ⟨A, cap, hO.base (Nat.le_of_lt zz.2.1), Br⟩), (he)⟩
end Go.Proofs.YtjdjekpbjnkliaaGreatDoor
