/-
  fold: Small: what it answers, at every text of runes.
-/
import Derived.Test.YtanonhannngkmaaGreatDoorFd7
import Derived.Test.YtanonhannngkmaaGreatDoorTz
namespace Go.Proofs.YtanonhannngkmaaGreatDoor
open Go Go.RowKit
namespace Fld
def b0 (v : Nat) : Nat := bif Nat.blt v 128 then v else 192 + v / 64
def b1 (v : Nat) : Nat := 128 + v % 64
def val (x : List UInt8) : Nat := (lk (rv x)).getD 0
/-- the bytes, where so many runes are done -/
def cur (d : List (List UInt8) × List (List UInt8)) : List UInt8 := lows d.1 ++ List.flatten d.2
def at' (d : List (List UInt8) × List (List UInt8)) : Nat := (List.flatten d.1).length
def hd (d : List (List UInt8) × List (List UInt8)) : List UInt8 := d.2.headD []
end Fld
open Fld in
abbrev smLt (s : ByteArray) (d : List (List UInt8) × List (List UInt8)) : Ltr :=
  ⟨fun i => [.string s, .int .i64 (at' d), .int .i32 (rv (hd d))][i]?, fun _ _ => False,
    fun a k y => match a with
      | 0 => BytesIs (cur d) 5 k y
      | 1 => BytesIs ((cur d).set (at' d) (UInt8.ofNat (b0 (val (hd d))))) 5 k y
      | 2 => y = .stringIter s (at' d)
      | 3 => y = .stringIter s (at' d + (hd d).length)
      | _ => BytesIs (((cur d).set (at' d) (UInt8.ofNat (b0 (val (hd d))))).set (at' d + 1) (UInt8.ofNat (b1 (val (hd d))))) 5 k y,
    fun j k n c => match j with
      | 0 => n = s.size ∧ c = k ∧ n ≤ k
      | _ => n = s.size - at' d ∧ c = k - at' d,
    fun q o => match q with
      | 0 => o = at' d
      | _ => o = at' d + 1,
    fun j => match j with
      | 0 => 0
      | _ => at' d⟩
abbrev smLo (s : ByteArray) (xs : List (List UInt8)) : Ltr :=
  ⟨fun i => [.string s, .int .i64 0, .int .i64 0, .string ⟨⟨Fld.lows xs⟩⟩][i]?, fun _ _ => False,
    fun a k y => match a with
      | 0 => BytesIs s.data.toList 5 k y
      | 2 => y = .stringIter s 0
      | _ => BytesIs (Fld.lows xs) 5 k y,
    fun _ k n c => n = s.size ∧ c = k ∧ n ≤ k, fun _ _ => False, fun _ => 0⟩
theorem set_mid {a b c : List UInt8} {p : Nat} {u v : UInt8} (hp : p = a.length) (hb : b = [u]) : (a ++ (b ++ c)).set p v = a ++ ([v] ++ c) := by
  subst hp hb
  simp
theorem set_mid2 {a b c : List UInt8} {p : Nat} {u0 u1 v0 v1 : UInt8} (hp : p = a.length) (hb : b = [u0, u1]) : ((a ++ (b ++ c)).set p v0).set (p + 1) v1 = a ++ ([v0, v1] ++ c) := by
  subst hp hb
  rw [List.set_append_right _ _ (by omega), Nat.sub_self]
  show (a ++ (v0 :: u1 :: c)).set _ _ = _
  rw [List.set_append_right _ _ (by omega), show a.length + 1 - a.length = 1 by omega]
  rfl
theorem sv_z32 : svp Tryz.prog (Go.zeroValue 21) = some (.int .i32 0) := by kernel_rfl
theorem sv_s8 : svp Tryz.prog (Go.sizeOf 5) = some 1 := by kernel_rfl
theorem sv_a8 : svp Tryz.prog (Go.isAgg 5) = some false := by kernel_rfl
theorem sv_us : svp Tryz.prog (Go.underlying 9) = some .string := by kernel_rfl
theorem sv_ub : svp Tryz.prog (Go.underlying 22) = some (.slice 5) := by kernel_rfl
theorem sv_u8 : svp Tryz.prog (Go.underlying 5) = some (.int .u8) := by kernel_rfl
theorem sm_ce (s : ByteArray) (_hsz : s.size ≤ 1000000) (xs : List (List UInt8)) (he : s.data.toList = List.flatten xs) (hv : ∀ x ∈ xs, Fld.Vr x) (w : World) : @CEOk (smLo s xs) Tryz.prog 64 (kep w) 64 smC := by
  have hsl : s.data.toList.length = s.size := rfl
  refine @ce_of Tryz.prog 64 (kep w) 64 (smLo s xs) (List (List UInt8) × List (List UInt8)) (fun d => smLt s d) (fun _ => smS) (fun d => d.2.length) (fun d => d.1 ++ d.2 = xs) smC smB rfl ?_ ([], xs) rfl rfl ⟨an, ac ⟨rfl, fun k n c h => h⟩ an, an, an, ac (fun k y h => ?_) (ac (fun k y h => h) an), an⟩ an
  case refine_2 =>
    show BytesIs ([] ++ List.flatten xs) _ k y
    rw [List.nil_append, ← he]
    exact h
  rintro ⟨done, todo⟩ h1 ro k E a w' h
  have h1 : done ++ todo = xs := h1
  let L : Ltr := smLt s (done, todo)
  have hvd : ∀ x ∈ done, Fld.Vr x := fun x hx => hv x (by rw [← h1]; simp [hx])
  have hdl : (Fld.lows done).length = (List.flatten done).length := Fld.lows_len hvd
  have hdrop : s.data.toList.drop (List.flatten done).length = List.flatten todo := by
    rw [he, ← h1, List.flatten_append, List.drop_left']
    rfl
  have hlen : (List.flatten done).length + (List.flatten todo).length = s.size := by
    rw [← hsl, he, ← h1, List.flatten_append, List.length_append]
  cases todo with
  | nil =>
    rw [List.append_nil] at h1
    subst h1
    have hie : ¬ (List.flatten done).length < s.size := by
      have : (List.flatten ([] : List (List UInt8))).length = 0 := rfl
      omega
    refine r_out (by intro h; cases h) (toldG L an (ac (@end_ok L (kep w) 2 (List.flatten done).length 64 s (fun k y h => h) hie) an) an an ⟨an, ac ⟨rfl, fun k n c h => h⟩ an, an, an, ac (fun k y h => ?_) an, an⟩ an sm_end h)
    have h : BytesIs (Fld.lows done ++ []) _ k y := h
    rw [List.append_nil] at h
    exact h
  | cons x todo =>
    have hx : Fld.Vr x := hv x (by rw [← h1]; simp)
    have hpos := hx.pos
    have hd := Fld.dec_vr (s := s) (p := (List.flatten done).length) (x := x) (y := List.flatten todo) (by rw [hdrop]; rfl) hx
    have hlx : (List.flatten (x :: todo)).length = x.length + (List.flatten todo).length := by simp
    have hlt : (List.flatten done).length < s.size := by omega
    have hcur : Fld.cur (done, x :: todo) = Fld.lows done ++ (x ++ List.flatten todo) := rfl
    have hcl : (Fld.cur (done, x :: todo)).length = s.size := by
      rw [hcur, List.length_append, List.length_append]
      omega
    let d' : List (List UInt8) × List (List UInt8) := (done ++ [x], todo)
    have hnext : Fld.cur d' = Fld.lows done ++ (Fld.lowB x ++ List.flatten todo) := by
      show Fld.lows (done ++ [x]) ++ _ = _
      rw [Fld.lows_app, List.append_assoc]
      show _ ++ ((Fld.lowB x ++ []) ++ _) = _
      rw [List.append_nil]
    have hat : Fld.at' d' = (List.flatten done).length + x.length := by
      show (List.flatten (done ++ [x])).length = _
      rw [List.flatten_append, List.length_append]
      simp
    have hit : ∀ k y, L.o 3 k y → (smLt s d').o 2 k y := fun k y h => by
      have h : y = .stringIter s ((List.flatten done).length + x.length) := h
      show y = .stringIter s (Fld.at' d')
      rw [hat]
      exact h
    have hgood : d'.1 ++ d'.2 = xs := by rw [← h1]; simp [d']
    have hmu : d'.2.length < (done, x :: todo).2.length := by simp [d']
    have hsl0 : ∀ k n c, L.s 0 k n c → (smLt s d').s 0 k n c := fun k n c h => h
    have nx : ∀ r, (∀ E : Ren, @Rel L E r (.int .i32 (Fld.rv x))) → @MEOk L Tryz.prog (kep w) 64 (nxtV 2 3 1 r) := fun r hr => @nxtV_ok L (kep w) 2 3 1 (List.flatten done).length (Fld.rv x) x.length r s hd (fun k y h => h) hlt rfl hr (fun k => rfl)
    cases hk : Fld.lk (Fld.rv x) with
    | none =>
      refine r_on d' (toldG L an (ac (nx (Lt 2) (@to_ltr L 2 _ rfl rfl)) (ac (@nkE_ok L (kep w) 64 2 _ _ _ ((Fld.rv x : Nat) : Int) smKs (.int .i32 0) Tryz.underlying33 Tryz.underlying21 sv_z32 rfl rfl ?_) an)) an an ⟨an, ac ⟨rfl, hsl0⟩ an, an, an, ac (fun k y h => ?_) (ac hit an), an⟩ an sm_miss h) hgood hmu
      · intro n hn he2
        obtain ⟨p, hp, rfl⟩ := List.mem_map.1 hn
        have : p.1 = Fld.rv x := by omega
        exact Fld.lkIn_none hk p hp this
      · have h : BytesIs (Fld.cur (done, x :: todo)) _ k y := h
        show BytesIs (Fld.cur d') _ k y
        rw [hnext, show Fld.lowB x = x by unfold Fld.lowB; rw [hk], ← hcur]
        exact h
    | some v =>
      obtain ⟨g1, g2, g3⟩ := Fld.gs_at hk
      have hval : Fld.val (Fld.hd (done, x :: todo)) = v := by
        show (Fld.lk (Fld.rv x)).getD 0 = v
        rw [hk]; rfl
      have hlow : Fld.lowB x = Fld.enc v := by unfold Fld.lowB; rw [hk]
      have hl2 := Fld.lowB_len hx
      rw [hlow, Fld.enc_len] at hl2
      have hmem := Fld.lkIn_some hk
      have hrun := List.all_eq_true.1 sm_hit _ hmem
      have rk : @MEOk L Tryz.prog (kep w) 64 (nxtV 2 3 1 (.int .i32 (Fld.rv x : Nat))) := nx _ (fun E => @to_flat L _ rfl E)
      have so : @OEOkX L Tryz.prog (kep w) (soE 22 65 0 (Lt 1) 1) := (@soE_ok L 22 5 65 0 1 (List.flatten done).length s.size 1 (Lt 1) Tryz.underlying22 sv_s8 (fun k n c h => ⟨h.1, by have := h.2.1; have := h.2.2; have := h.1; omega, by have := h.2.1; have := h.2.2; omega⟩) (@is_ltr L 1 _ rfl) (by omega) (by show _ = 0 + _ * 1; rw [Nat.zero_add, Nat.mul_one]; rfl) (fun k n c h => ⟨rfl, by rw [h.2.1]; rfl⟩)).x
      have i0 : @OEOkX L Tryz.prog (kep w) (iaV 22 65 1 (.int .i64 0) 0) := (@iaV_ok L 22 5 65 1 0 0 1 (.int .i64 0) Tryz.underlying22 sv_s8 (fun k n c h => by rw [h.1]; show 0 < s.size - (List.flatten done).length; omega) (@is_flat L _ rfl) rfl).x
      have he0 : (Fld.b0 v) < 256 := by
        unfold Fld.b0
        cases hb : Nat.blt v 128 with
        | true => have : v < 128 := by simpa [Nat.blt_eq] using hb
                  show v < 256; omega
        | false => show 192 + v / 64 < 256; omega
      have he1 : (Fld.b1 v) < 256 := by unfold Fld.b1; omega
      have hst0 : ∀ bb, bb = Fld.b0 v → @MEOk L Tryz.prog (kep w) 64 (stC 5 0 0 1 (.int .u8 (bb : Nat))) := fun bb hbb => by
        subst hbb
        refine @stC_ok L 5 0 0 1 (List.flatten done).length (kep w) _ (.int .u8 ((UInt8.ofNat (Fld.b0 v)).toNat : Nat)) sv_s8 (fun o h => h) (fun E z r => ?_) rfl (fun k y h => ?_)
        · rw [@Rel.flat_eq E L _ _ rfl r]
          rw [UInt8.toNat_ofNat_of_lt' he0]
        · have := bytes_set (b := UInt8.ofNat (Fld.b0 v)) (p := (List.flatten done).length) (show BytesIs (Fld.cur (done, x :: todo)) _ k y from h) (by rw [hcl]; exact hlt)
          obtain ⟨cs, tt, lo, hi, q1, q2, q3, q4⟩ := this
          refine ⟨cs, tt, lo, hi, q1, q2, q3, ?_⟩
          show BytesIs ((Fld.cur (done, x :: todo)).set (List.flatten done).length (UInt8.ofNat (Fld.b0 (Fld.val (Fld.hd (done, x :: todo)))))) _ k _
          rw [hval]
          exact q4
      cases hb : Nat.blt v 128 with
      | true =>
        rw [hb] at hl2
        have hx1 : x.length = 1 := hl2.symm
        obtain ⟨u, rfl⟩ : ∃ u, x = [u] := by
          cases x with
          | nil => cases hx1
          | cons u l => cases l with
            | nil => exact ⟨u, rfl⟩
            | cons _ _ => simp at hx1
        have hO : ∀ e ∈ smO1 v, @OEOkX L Tryz.prog (kep w) e := by
          unfold smO1
          rw [hb]
          exact ac so (ac i0 an)
        have hM : ∀ e ∈ smMe (Fld.rv [u]) v, @MEOk L Tryz.prog (kep w) 64 e := by
          unfold smMe
          rw [hb]
          exact ac rk (ac (hst0 v (by unfold Fld.b0; rw [hb]; rfl)) an)
        rw [show (bif Nat.blt (Fld.rv [u], v).2 128 then 1 else 4) = 1 by rw [hb]; rfl] at hrun
        refine r_on d' (toldG L hO hM an an ⟨an, ac ⟨rfl, hsl0⟩ an, an, an, ac (fun k y h => ?_) (ac hit an), an⟩ an hrun h) hgood hmu
        have h : BytesIs ((Fld.cur (done, [u] :: todo)).set (List.flatten done).length (UInt8.ofNat (Fld.b0 (Fld.val (Fld.hd (done, [u] :: todo)))))) _ k y := h
        rw [hval, hcur, set_mid hdl.symm rfl] at h
        show BytesIs (Fld.cur d') _ k y
        rw [hnext, hlow]
        have e1 : Fld.enc v = [UInt8.ofNat (Fld.b0 v)] := by unfold Fld.enc Fld.b0; rw [hb]; rfl
        rw [e1]
        exact h
      | false =>
        rw [hb] at hl2
        have hx1 : x.length = 2 := hl2.symm
        obtain ⟨u0, u1, rfl⟩ : ∃ u0 u1, x = [u0, u1] := by
          cases x with
          | nil => cases hx1
          | cons u0 l => cases l with
            | nil => cases hx1
            | cons u1 l => cases l with
              | nil => exact ⟨u0, u1, rfl⟩
              | cons _ _ => simp at hx1
        have hlt2 : (List.flatten done).length + 1 < s.size := by
          have : [u0, u1].length = 2 := rfl
          omega
        have i1 : @OEOkX L Tryz.prog (kep w) (iaV 22 65 1 (.int .i64 1) 1) := (@iaV_ok L 22 5 65 1 1 1 1 (.int .i64 1) Tryz.underlying22 sv_s8 (fun k n c h => by rw [h.1]; show 1 < s.size - (List.flatten done).length; omega) (@is_flat L _ rfl) rfl).x
        have hO : ∀ e ∈ smO1 v, @OEOkX L Tryz.prog (kep w) e := by
          unfold smO1
          rw [hb]
          exact ac so (ac i0 (ac i1 an))
        have hM : ∀ e ∈ smMe (Fld.rv [u0, u1]) v, @MEOk L Tryz.prog (kep w) 64 e := by
          unfold smMe
          rw [hb]
          refine ac rk (ac (@ldB_ok L 5 0 1 ((List.flatten done).length + 1) (kep w) TOP (.int .u8 ((((Fld.cur (done, [u0, u1] :: todo))[(List.flatten done).length + 1]'(by rw [hcl]; exact hlt2)).toNat : Nat) : Int)) sv_a8 (fun k y h => ?_) (fun o h => h) (fun E => @Rel.any L _ _ _)) (ac (hst0 (192 + v / 64) (by unfold Fld.b0; rw [hb]; rfl)) (ac (@stC_ok L 5 1 1 4 ((List.flatten done).length + 1) (kep w) _ (.int .u8 ((UInt8.ofNat (Fld.b1 v)).toNat : Nat)) sv_s8 (fun o h => h) (fun E z r => ?_) rfl (fun k y h => ?_)) an)))
          · exact bytes_at (show BytesIs (Fld.cur (done, [u0, u1] :: todo)) _ k y from h) (by rw [hcl]; exact hlt2)
          · rw [@Rel.flat_eq E L _ _ rfl r, UInt8.toNat_ofNat_of_lt' he1]
            rfl
          · have h : BytesIs ((Fld.cur (done, [u0, u1] :: todo)).set (List.flatten done).length (UInt8.ofNat (Fld.b0 (Fld.val (Fld.hd (done, [u0, u1] :: todo)))))) _ k y := h
            obtain ⟨cs, tt, lo, hi, q1, q2, q3, q4⟩ := bytes_set (b := UInt8.ofNat (Fld.b1 v)) (p := (List.flatten done).length + 1) h (by rw [List.length_set, hcl]; exact hlt2)
            refine ⟨cs, tt, lo, hi, q1, q2, q3, ?_⟩
            show BytesIs (((Fld.cur (done, [u0, u1] :: todo)).set (List.flatten done).length (UInt8.ofNat (Fld.b0 (Fld.val (Fld.hd (done, [u0, u1] :: todo)))))).set ((List.flatten done).length + 1) (UInt8.ofNat (Fld.b1 (Fld.val (Fld.hd (done, [u0, u1] :: todo)))))) _ k _
            rw [hval] at q4 ⊢
            exact q4
        rw [show (bif Nat.blt (Fld.rv [u0, u1], v).2 128 then 1 else 4) = 4 by rw [hb]; rfl] at hrun
        refine r_on d' (toldG L hO hM an an ⟨an, ac ⟨rfl, hsl0⟩ an, an, an, ac (fun k y h => ?_) (ac hit an), an⟩ an hrun h) hgood hmu
        have h : BytesIs (((Fld.cur (done, [u0, u1] :: todo)).set (List.flatten done).length (UInt8.ofNat (Fld.b0 (Fld.val (Fld.hd (done, [u0, u1] :: todo)))))).set ((List.flatten done).length + 1) (UInt8.ofNat (Fld.b1 (Fld.val (Fld.hd (done, [u0, u1] :: todo)))))) _ k y := h
        rw [hval, hcur, set_mid2 hdl.symm rfl] at h
        show BytesIs (Fld.cur d') _ k y
        rw [hnext, hlow]
        have e1 : Fld.enc v = [UInt8.ofNat (Fld.b0 v), UInt8.ofNat (Fld.b1 v)] := by unfold Fld.enc Fld.b0 Fld.b1; rw [hb]; rfl
        rw [e1]
        exact h
/-- the program's Small -/
theorem small_any (s : ByteArray) (hsz : s.size ≤ 1000000) (xs : List (List UInt8)) (he : s.data.toList = List.flatten xs) (hv : ∀ x ∈ xs, Fld.Vr x) (w : World) :
    Calls Tryz.prog 10 #[.string s] w fun e w' => e = .returned (.string ⟨⟨Fld.lows xs⟩⟩) ∧ Below w.heap.size w w' := by
  let L : Ltr := smLo s xs
  have hl : (Fld.lows xs).length = s.size := by rw [Fld.lows_len hv, ← he]; rfl
  have hM : ∀ e ∈ [insE Tryz.prog 64, cvB 9 22 (Lt 0) 0 0, rngE 9 (Lt 0) 2, cvT 22 9 5 0 (Lt 3)], @MEOk L Tryz.prog (kep w) 64 e :=
    ac (@ins_ok L _ _ _) (ac (@cvB_ok L (kep w) 64 9 22 5 0 0 (Lt 0) s sv_us sv_ub sv_u8 (@is_ltr L 0 _ rfl) (fun k y h => h) rfl (fun k h => ⟨rfl, rfl, h⟩)) (ac (@rng_ok L _ _ _ _ s (@is_ltr L 0 _ rfl) fun k => rfl) (ac (@cvT_ok L (kep w) 64 22 9 5 5 0 (Lt 3) (Fld.lows xs) sv_ub sv_us sv_u8 (fun k y h => h) rfl (fun k n c h => by rw [h.1, hl]) (@to_ltr L 3 _ rfl rfl)) an)))
  refine (@symG L [] _ [smC] [] 120 _ [Lt 0] [.string s] _ w an hM (ac (sm_ce s hsz xs he hv w) an) an (@RelL.cons L _ _ _ _ _ (.ltr rfl rfl) (@RelL.nil L _)) sm_all).mono ?_
  rintro e w' ⟨v', F, rfl, rv, hb⟩
  rw [@is_ltr L 3 _ rfl F _ rv]
  exact ⟨rfl, hb⟩
end Go.Proofs.YtanonhannngkmaaGreatDoor
/-
  A run over letters: a list of known texts that a call has left; an element of it at an unknown place; slices.Index over it.
-/
namespace Go.Proofs.YtanonhannngkmaaGreatDoor
open Go Go.RowKit
/-- a call that leaves a list of known texts -/
def ownP (g : FuncId) (xs : List Value) (l : List (List UInt8)) (t : TypeId) (v : Value → Value) : Prim := fun f args H => bif Nat.beq f g && pqs args xs then some (v (.slice (some ⟨H.n, 0, none⟩) l.length big), H.push (.own (strs l) t 1)) else none
theorem ownP_ok [Ltr] {P : Program} {G base : Nat} {X : Kep} {g : FuncId} {xs : List Value} {l : List (List UInt8)} {t : TypeId} {v : Value → Value} (hv : ∀ (F : Ren) a b, Rel F a b → Rel F (v a) (v b))
    (h : ∀ (E : Ren) (w : World) (args' : List Value), (∀ b, X b → w.heap[b]? = X.ob b) → RelL E xs args' → Calls P g ⟨args'⟩ w fun e w' => ∃ V, e = .returned (v V) ∧ Below w.heap.size w w' ∧ ListAt t w.heap.size w' V l) : PrimOk P (ownP g xs l t v) G X base := by
  intro f args H u H1 E w args' hR hG hr e
  unfold ownP at e
  obtain ⟨hc, e⟩ := cond_some e
  simp only [Bool.and_eq_true] at hc
  obtain ⟨rfl, rfl⟩ := Prod.mk.inj (Option.some.inj e)
  rw [Nat.eq_of_beq_eq_true hc.1]
  rw [pqs_eq hc.2] at hr
  refine (h E w args' hR.fx hr).mono ?_
  rintro e w' ⟨V, rfl, hb, b, k, y, rfl, hlb, hy, ys, rfl, hl, hm⟩
  have hg : w.grownBy w' none := ⟨hb.os, hb.tape, hb.output, hb.size, fun j hj _ => hb.block j hj⟩
  obtain ⟨p1, p2, p3⟩ := hR.grown (g := b) (k := k) (o := .own (strs l) t 1) hg (fun k h => by cases h) (.inl hlb) (fun F x => ⟨_, ys, hy, RelL.flats (strs_flat l), hl, hm⟩)
  refine ⟨_, _, rfl, p2, p1, p3, hv _ _ _ ?_⟩
  exact rel_own Ren.at
/-- the address of an element of a known list -/
def iaO (t i m : Nat) (y : Value) (p : Nat) : OE :=
  ⟨fun o ρ => match o with
    | .indexAddr t' a b => Nat.beq t' t && pq (ρ b) y && (match ρ a with
      | .slice (some ⟨ii, 0, none⟩) mm _ => Nat.beq ii i && Nat.beq mm m
      | _ => false)
    | _ => false, .complex .f32 i p⟩
theorem iaO_ok [Ltr] {t e i m p d : Nat} {y : Value} (hu : Tryz.prog.underlying t = some (.slice e)) (hz : svp Tryz.prog (Go.sizeOf e) = some 1) (hy : ∀ (E : Ren) z, Rel E y z → z = .int .i64 d) (hd : d < m) (hp : Ltr.p p d) : OEOk Tryz.prog (iaO t i m y p) := by
  intro o ρ ρ' E hr hf w
  simp only [iaO] at hf
  split at hf
  · rename_i t' a b ho
    simp only [Bool.and_eq_true] at hf
    obtain ⟨⟨h1, h2⟩, h3⟩ := hf
    rw [ho] at hr
    have ra := hr a (by simp [Op.operands])
    have rb := hr b (by simp [Op.operands])
    rw [pq_eq h2] at rb
    have e2 := hy E _ rb
    split at h3
    · rename_i ii mm cc hx
      rw [hx] at ra
      simp only [Bool.and_eq_true] at h3
      generalize hv : ρ' a = v at ra
      cases ra with
      | same hf => cases hf
      | @sl _ _ bk k _ _ hE =>
      rw [Nat.eq_of_beq_eq_true h3.1] at hE
      obtain rfl := Nat.eq_of_beq_eq_true h3.2
      rw [Nat.eq_of_beq_eq_true h1] at ho
      refine ⟨.pointer (some ⟨bk, d, none⟩), ?_, .ptl hE hp, fun c e => by rw [ho] at e; cases e⟩
      simp only [execOp, ho, hv, e2]
      refine run_value ?_
      show ((Go.asIntOf (.int .i64 (d : Int))) >>= _).run Tryz.prog w = _
      rw [Sem.run_bind]
      show (Result.ok (IntKind.i64, (d : Int)) w).andThen _ = _
      rw [Result.andThen_ok]
      dsimp only
      rw [Sem.run_bind, run_underlying hu, Result.andThen_ok]
      simp only [pure_bind]
      rw [Sem.run_bind, run_underlying hu, Result.andThen_ok]
      rw [if_pos (by omega), Sem.run_bind, svp_run w hz, Result.andThen_ok, Int.toNat_natCast, add_at, Nat.mul_one, Nat.zero_add]
      rfl
    · cases h3
  · cases hf
/-- what lies there -/
def ldO (t p : Nat) (l : List (List UInt8)) (r : Value) : ME :=
  ⟨fun op ρ H => match op with
    | .load t' x => match ρ x with
      | .complex .f32 i pp => match look i H.h with
        | some (.own us _ _) => bif Nat.beq t' t && Nat.beq pp p && all2 (veqn 4) us (strs l) then some (.value r, H) else none
        | _ => none
      | _ => none
    | _ => none⟩
theorem ldO_ok [Ltr] {t p d : Nat} {X : Kep} {base : Nat} {l : List (List UInt8)} {r : Value} {x : List UInt8} (ht : svp Tryz.prog (Go.isAgg t) = some false) (hx : l[d]? = some x) (hp : ∀ o, Ltr.p p o → o = d) (hr : ∀ E : Ren, Rel E r (.string ⟨⟨x⟩⟩)) : MEOk Tryz.prog X base (ldO t p l r) where
  ok := by
    intro o ρ ρ' E H H1 nx w hρ R e
    simp only [ldO] at e
    split at e
    · rename_i t' y ho
      split at e
      · rename_i i pp hy
        split at e
        · rename_i us tt zz hl
          obtain ⟨hc, e⟩ := cond_some' e
          simp only [Bool.and_eq_true] at hc
          obtain ⟨rfl, rfl⟩ := Prod.mk.inj (Option.some.inj e)
          have ry := hρ y (by rw [ho]; simp [Op.operands])
          rw [hy] at ry
          generalize hv : ρ' y = v at ry
          cases ry with
          | same hf => cases hf
          | @ptl _ _ b k oo hE hs =>
          rw [Nat.eq_of_beq_eq_true hc.1.2] at hs
          obtain rfl := hp _ hs
          obtain rfl := all2_eq (fun u v => @veqn_eq noLtr 4 u v) hc.2
          rw [Nat.eq_of_beq_eq_true hc.1.1] at ho
          obtain ⟨b', k', e', zs, ys, hyo, hrel, _⟩ := R.ok i _ hl
          rw [hE] at e'; obtain ⟨rfl, rfl⟩ := Prod.mk.inj (Option.some.inj e')
          obtain ⟨v', h1, h2⟩ := hrel.get (i := oo) (v := .string ⟨⟨x⟩⟩) (by simp [strs, hx])
          rw [h2.flat_eq rfl] at h1
          have hcell : w.cell? ⟨b, oo, none⟩ = some (.string ⟨⟨x⟩⟩) := by
            rw [heap_get_of hyo]
            have hlt : oo < zs.length := (List.getElem?_eq_some_iff.1 h1).1
            simp [List.getElem?_append_left hlt, h1]
          refine Does.pure R (hr E) ?_
          simp only [execOp, ho, hv]
          refine run_value ?_
          show ((Instr.sureAddr _) >>= _).run Tryz.prog w = _
          show ((Go.isAgg t) >>= _).run Tryz.prog w = _
          rw [Sem.run_bind, svp_run w ht, Result.andThen_ok]
          show (Go.load _).run Tryz.prog w = _
          simp [Go.load, Sem.run, hcell]
        · cases e
      · cases e
    · cases e
  q := by
    intro o ρ H H1 nx e
    simp only [ldO] at e
    split at e
    · split at e
      · split at e
        · obtain ⟨hc, e⟩ := cond_some' e
          obtain ⟨rfl, rfl⟩ := Prod.mk.inj (Option.some.inj e)
          exact ⟨fun c h => (by cases h), fun _ => ⟨rfl, _, rfl⟩⟩
        · cases e
      · cases e
    · cases e
/-- slices.Index over a known list -/
def ixO (l : List (List UInt8)) (y r : Value) (args : List Value) (H : RW) : Option Value :=
  match args with
  | [.slice (some ⟨i, 0, none⟩) n c, z] => match look i H.h with
    | some (.own us _ _) => bif Nat.beq n l.length && Nat.beq c big && pq z y && all2 (veqn 4) us (strs l) then some r else none
    | _ => none
  | _ => none
theorem ixO_ok [Ltr] {X : Kep} {base : Nat} {l : List (List UInt8)} {y r : Value} {s : ByteArray} (hl : l.length ≤ 1000000) (hy : ∀ (E : Ren) z, Rel E y z → z = .string s) (hr : ∀ E : Ren, Rel E r (.int .i64 (idxI (Tbl.idx s (l.map fun x => ⟨⟨x⟩⟩) 0)))) : PEOk Tryz.prog X base (17, ixO l y r) := by
  intro args H v E w args' hR ha e
  dsimp only [ixO] at e
  split at e
  · rename_i i n c z
    split at e
    · rename_i us tt zz hlk
      obtain ⟨hc, e⟩ := cond_some e
      simp only [Bool.and_eq_true] at hc
      obtain rfl := Option.some.inj e
      obtain rfl := Nat.eq_of_beq_eq_true hc.1.1.1
      obtain rfl := Nat.eq_of_beq_eq_true hc.1.1.2
      obtain rfl := all2_eq (fun u v => @veqn_eq noLtr 4 u v) hc.2
      cases ha with
      | cons h1 t1 =>
      cases t1 with
      | cons h2 t2 =>
      cases t2
      rw [pq_eq hc.1.2] at h2
      rw [hy E _ h2]
      cases h1 with
      | same hf => cases hf
      | @sl _ _ b k _ _ hE =>
      obtain ⟨b', k', e', zs, ys, hyo, hrel, _⟩ := hR.ok i _ hlk
      rw [hE] at e'; obtain ⟨rfl, rfl⟩ := Prod.mk.inj (Option.some.inj e')
      have hT : TextsIn w (.slice (some ⟨b, 0, none⟩) l.length (room big k)) (l.map fun x => ⟨⟨x⟩⟩) := by
        refine ⟨by simpa using hl, some ⟨b, 0, none⟩, room big k, by simp, fun j x hj => ⟨⟨b, 0, none⟩, rfl, rfl, ?_⟩⟩
        obtain ⟨x', hx', rfl⟩ : ∃ x', l[j]? = some x' ∧ (⟨⟨x'⟩⟩ : ByteArray) = x := by
          rw [List.getElem?_map] at hj
          cases hq : l[j]? with
          | none => rw [hq] at hj; cases hj
          | some x' => rw [hq] at hj; exact ⟨x', rfl, Option.some.inj hj⟩
        obtain ⟨v', h3, h4⟩ := hrel.get (i := j) (v := .string ⟨⟨x'⟩⟩) (by simp [strs, hx'])
        rw [h4.flat_eq rfl] at h3
        rw [add_at, Nat.zero_add, heap_get_of hyo]
        have hlt : j < zs.length := (List.getElem?_eq_some_iff.1 h3).1
        simp [List.getElem?_append_left hlt, h3]
      have hi := index_any hT s
      exact hi.mono fun e w' p => ⟨_, p.1, hr E, p.2⟩
    · cases e
  · cases e
end Go.Proofs.YtanonhannngkmaaGreatDoor
