/-
  Plain: a rule's text with a part that comes again, with one that is none, without its period.
-/
import Derived.Test.YtocpmljkmdpfkaaGreatDoorRb3
namespace Go.Proofs.YtocpmljkmdpfkaaGreatDoor
namespace Rfc
section
variable {r : Ru} {t : List UInt8}
/-- the parts' texts, by their numbers -/
def px (r : Ru) (t : List UInt8) (p : Nat) : List UInt8 := nm p ++ 61 :: (vals r.f r.iv r.c t r.M r.D r.K r.P).getD p []
theorem text_px : text r.f r.iv r.c t r.M r.D r.K r.P = Lib.join ((ixs 0 (vals r.f r.iv r.c t r.M r.D r.K r.P)).map (px r t)) [59] := by
  unfold text
  rw [text_ixs]
  rfl
theorem ixs_zero : ixs 0 (vals r.f r.iv r.c t r.M r.D r.K r.P) = 0 :: ixs 1 [num r.iv 1, num r.c 0, t, nums r.M, nums r.D, days r.K, nums r.P] := by
  show ixs 0 (fq r.f.toNat :: _) = _
  rw [ixs, if_neg (fq_ne _)]
theorem px_no (hok : Okay r.f r.iv r.c r.u t r.M r.D r.K r.P) (p : Nat) : (59 : UInt8) ∉ px r t p := vals_no' hok.u p
theorem spl_text (hok : Okay r.f r.iv r.c r.u t r.M r.D r.K r.P) : spl (text r.f r.iv r.c t r.M r.D r.K r.P) 59 = (ixs 0 (vals r.f r.iv r.c t r.M r.D r.K r.P)).map (px r t) := by
  rw [text_px, spl_join _ (by rw [ixs_zero]; simp) (fun x hx => by
    obtain ⟨p, -, rfl⟩ := List.mem_map.1 hx
    exact px_no hok p)]
/-- the parts, and one more -/
theorem parse_more (hok : Okay r.f r.iv r.c r.u t r.M r.D r.K r.P) (x : List UInt8) (hx : (59 : UInt8) ∉ x) (hl : (text r.f r.iv r.c t r.M r.D r.K r.P).length + x.length + 1 ≤ 4096) :
    ∃ S : Nat → Bool, (∀ p, p ∈ ixs 0 (vals r.f r.iv r.c t r.M r.D r.K r.P) → S p = true) ∧ parse (text r.f r.iv r.c t r.M r.D r.K r.P ++ 59 :: x) = endP (runP [x] (put S r) (gl S)) := by
  have hr := run_put hok [x] (ixs 0 (vals r.f r.iv r.c t r.M r.D r.K r.P)) (fun _ => false) (ixs_nodup _ _) (fun p hp => ⟨(mem_text p |>.1 hp).1, (mem_text p |>.1 hp).2, rfl⟩)
  rw [put_none, gl_none] at hr
  refine ⟨fun j => decide (j ∈ ixs 0 (vals r.f r.iv r.c t r.M r.D r.K r.P)) || false, fun p hp => by simp [hp], ?_⟩
  · have e : text r.f r.iv r.c t r.M r.D r.K r.P ++ 59 :: x = Lib.join ((ixs 0 (vals r.f r.iv r.c t r.M r.D r.K r.P)).map (px r t) ++ [x]) [59] := by
      rw [join_snoc, if_neg (by rw [ixs_zero]; simp), ← text_px]
    unfold parse
    rw [if_neg (by simp; omega), e, spl_join _ (by simp) (fun y hy => by
      rcases List.mem_append.1 hy with hy | hy
      · obtain ⟨p, -, rfl⟩ := List.mem_map.1 hy
        exact px_no hok p
      · rw [List.mem_singleton.1 hy]
        exact hx)]
    exact congrArg endP hr
theorem parse_again (hok : Okay r.f r.iv r.c r.u t r.M r.D r.K r.P) (q : Nat) (hq : q ∈ ixs 0 (vals r.f r.iv r.c t r.M r.D r.K r.P)) (s : List UInt8) (hs : (59 : UInt8) ∉ s) (hl : (text r.f r.iv r.c t r.M r.D r.K r.P).length ≤ 3936) (hl' : s.length ≤ 40) :
    parse (text r.f r.iv r.c t r.M r.D r.K r.P ++ [59] ++ nm q ++ [61] ++ s) = .bad 5 := by
  have h8 : q < 8 := (mem_text q |>.1 hq).1
  have hn : (nm q).length ≤ 10 := by unfold nm; split <;> decide
  obtain ⟨S, hS, he⟩ := parse_more hok (nm q ++ 61 :: s) (fun e => by
    rcases List.mem_append.1 e with e | e
    · have := nm_mem q 59 e; simp at this
    · rcases List.mem_cons.1 e with e | e
      · cases e
      · exact hs e) (by simp; omega)
  have e : text r.f r.iv r.c t r.M r.D r.K r.P ++ [59] ++ nm q ++ [61] ++ s = text r.f r.iv r.c t r.M r.D r.K r.P ++ 59 :: (nm q ++ 61 :: s) := by simp
  rw [e, he, runP]
  unfold stepP
  rw [cut_hit (nm_no q)]
  simp only [part_nm q h8, gl_get S h8, hS q hq]
  rfl
theorem parse_none (hok : Okay r.f r.iv r.c r.u t r.M r.D r.K r.P) (q : Nat) (hq : q ∈ ixs 0 (vals r.f r.iv r.c t r.M r.D r.K r.P)) (s : List UInt8) (hs : (59 : UInt8) ∉ s) (hl : (text r.f r.iv r.c t r.M r.D r.K r.P).length ≤ 3936) (hl' : s.length ≤ 40) :
    parse (text r.f r.iv r.c t r.M r.D r.K r.P ++ [59, 88] ++ nm q ++ [61] ++ s) = .bad 1 := by
  have h8 : q < 8 := (mem_text q |>.1 hq).1
  have hn : (nm q).length ≤ 10 := by unfold nm; split <;> decide
  obtain ⟨S, -, he⟩ := parse_more hok ((88 :: nm q) ++ 61 :: s) (fun e => by
    rcases List.mem_append.1 e with e | e
    · rcases List.mem_cons.1 e with e | e
      · cases e
      · have := nm_mem q 59 e; simp at this
    · rcases List.mem_cons.1 e with e | e
      · cases e
      · exact hs e) (by simp; omega)
  have e : text r.f r.iv r.c t r.M r.D r.K r.P ++ [59, 88] ++ nm q ++ [61] ++ s = text r.f r.iv r.c t r.M r.D r.K r.P ++ 59 :: ((88 :: nm q) ++ 61 :: s) := by simp
  have h61 : (61 : UInt8) ∉ 88 :: nm q := fun e => by
    rcases List.mem_cons.1 e with e | e
    · cases e
    · exact nm_no q e
  rw [e, he, runP]
  unfold stepP
  rw [cut_hit h61]
  simp only [part_x q h8]
  rfl
theorem parse_empty : parse [] = .bad 1 := by
  have hc : Lib.cut [] [61] = ([], [], false) := by decide +kernel
  have hs : spl [] 59 = [[]] := spl_one (by simp)
  unfold parse
  rw [if_neg (by decide), hs, runP]
  unfold stepP
  rw [hc]
  rfl
/-- without the period -/
theorem parse_rest (hok : Okay r.f r.iv r.c r.u t r.M r.D r.K r.P) (hl : (Lib.join (((ixs 0 (vals r.f r.iv r.c t r.M r.D r.K r.P)).map (px r t)).drop 1) [59]).length ≤ 4096) :
    parse (Lib.join (((ixs 0 (vals r.f r.iv r.c t r.M r.D r.K r.P)).map (px r t)).drop 1) [59]) = .bad 1 := by
  have hz := ixs_zero (r := r) (t := t)
  have hnd := ixs_nodup (vals r.f r.iv r.c t r.M r.D r.K r.P) 0
  have hm := fun j => mem_text (r := r) (t := t) j
  rw [hz] at hl hnd hm ⊢
  generalize ixs 1 [num r.iv 1, num r.c 0, t, nums r.M, nums r.D, days r.K, nums r.P] = ps at hl hnd hm ⊢
  obtain ⟨n0, n1⟩ := List.nodup_cons.1 hnd
  simp only [List.map_cons, List.drop_succ_cons, List.drop_zero] at hl ⊢
  by_cases h0 : ps = []
  · subst h0
    exact parse_empty
  · have hr := run_put hok [] ps (fun _ => false) n1 (fun p hp => ⟨((hm p).1 (List.mem_cons_of_mem _ hp)).1, ((hm p).1 (List.mem_cons_of_mem _ hp)).2, rfl⟩)
    rw [List.append_nil, put_none, gl_none] at hr
    unfold parse
    rw [if_neg (by omega), spl_join _ (by simpa using h0) (fun y hy => by
      obtain ⟨p, -, rfl⟩ := List.mem_map.1 hy
      exact px_no hok p)]
    refine (congrArg endP hr).trans ?_
    simp only [runP, endP]
    rw [if_pos (by rw [gl_get _ (by omega)]; simp [n0])]
theorem rest_len {xs : List (List UInt8)} (h : (Lib.join xs [59]).length ≤ 4000) : (Lib.join (xs.drop 1) [59]).length ≤ 4096 := by
  match xs with
  | [] => simp [Lib.join_nil]
  | [x] => simp [Lib.join_nil]
  | x :: y :: l =>
    rw [join_more] at h
    simp only [List.length_append, List.length_cons, List.drop_succ_cons, List.drop_zero] at h ⊢
    omega
theorem contains_no {c : UInt8} {s : List UInt8} (h : Lib.contains s [c] = false) : c ∉ s := by
  intro hc
  have h1 : ¬ 0 ≤ Lib.index s [c] := by simpa [Lib.contains] using h
  have h2 := Lib.index_ge s [c]
  have h3 : Lib.indexByte s c = -1 := by rw [← Lib.index_one]; omega
  obtain ⟨k, hk, e⟩ := List.getElem_of_mem hc
  exact Lib.indexByte_none h3 k (by rw [List.getElem?_eq_getElem hk, e])
end
/-- what RfcTwice asks of a rule's text, in one -/
theorem twice_facts {f iv c u : Int} {t : List UInt8} {M D : List Int} {K : List (Int × Int)} {P : List Int} (hok : Okay f iv c u t M D K P) (hv : ∀ v ∈ vals f iv c t M D K P, v.length ≤ 480) (hl : (text f iv c t M D K P).length ≤ 3936) (s : List UInt8) (hs : (59 : UInt8) ∉ s) (hs' : s.length ≤ 40) :
    ∃ PS : List (List UInt8), spl (text f iv c t M D K P) 59 = PS ∧ 1 ≤ PS.length ∧ PS.length ≤ 8 ∧ (Lib.join (PS.drop 1) [59]).length ≤ 4096 ∧ parse (Lib.join (PS.drop 1) [59]) = .bad 1 ∧
      ∀ p ∈ PS, p.length ≤ 4096 ∧ ∃ q cv, Lib.cut p [61] = (nm q, cv, true) ∧ (nm q).length ≤ 10 ∧ parse (text f iv c t M D K P ++ [59] ++ nm q ++ [61] ++ s) = .bad 5 ∧ parse (text f iv c t M D K P ++ [59, 88] ++ nm q ++ [61] ++ s) = .bad 1 := by
  have hjn : (Lib.join (((ixs 0 (vals f iv c t M D K P)).map (px ⟨f, iv, c, u, M, D, K, P⟩ t)).drop 1) [59]).length ≤ 4096 := rest_len (by
    have := text_px (r := ⟨f, iv, c, u, M, D, K, P⟩) (t := t)
    exact Nat.le_trans (Nat.le_of_eq (congrArg List.length this.symm)) (Nat.le_trans hl (by decide)))
  refine ⟨(ixs 0 (vals f iv c t M D K P)).map (px ⟨f, iv, c, u, M, D, K, P⟩ t), spl_text (r := ⟨f, iv, c, u, M, D, K, P⟩) hok, ?_, ?_, hjn, parse_rest (r := ⟨f, iv, c, u, M, D, K, P⟩) hok hjn, fun p hp => ?_⟩
  · rw [List.length_map]
    have := congrArg List.length (ixs_zero (r := ⟨f, iv, c, u, M, D, K, P⟩) (t := t))
    exact Nat.le_trans (by simp) (Nat.le_of_eq this.symm)
  · have := parts_le (vals f iv c t M D K P) 0
    rw [text_ixs, List.length_map] at this
    rw [List.length_map]
    exact this
  · obtain ⟨q, hq, rfl⟩ := List.mem_map.1 hp
    have hn : (nm q).length ≤ 10 := by unfold nm; split <;> decide
    have hq8 : q < (vals f iv c t M D K P).length := (mem_text (r := ⟨f, iv, c, u, M, D, K, P⟩) q |>.1 hq).1
    refine ⟨?_, q, (vals f iv c t M D K P).getD q [], cut_hit (nm_no q), hn, parse_again (r := ⟨f, iv, c, u, M, D, K, P⟩) hok q hq s hs hl hs', parse_none (r := ⟨f, iv, c, u, M, D, K, P⟩) hok q hq s hs hl hs'⟩
    have h := hv _ (List.getElem_mem hq8)
    show (nm q ++ 61 :: (vals f iv c t M D K P).getD q []).length ≤ 4096
    rw [getD_lt hq8]
    simp only [List.length_append, List.length_cons]
    omega
end Rfc
end Go.Proofs.YtocpmljkmdpfkaaGreatDoor
