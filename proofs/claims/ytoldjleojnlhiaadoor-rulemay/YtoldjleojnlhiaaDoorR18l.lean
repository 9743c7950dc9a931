/-
  The law's Check: its last region (32), over a frame that is a letter.
-/
import Derived.Test.YtoldjleojnlhiaaDoorR18k
namespace Go.Proofs.YtoldjleojnlhiaaDoor
open Go.RowKit

set_option maxRecDepth 100000 in
set_option maxHeartbeats 1000000 in
theorem reg32_df (a0 : Act) (w : World) (Q : Exit → Act → World → Prop) (b : Nat) (f : Int) (AM AD AW AP : Option Addr) (cM cD cW cP : Nat) (M D : List Int) (W : List (Int × Int)) (P : List Int) (hs0 : a0.tmps.size = 236) (h1 : a0.tmps.getD 1 undef = .pointer (some ⟨b, 0, none⟩))
    (e0 : w.cell? ⟨b, 0, none⟩ = some (.int .i64 f)) (_e4 : w.cell? ⟨b, 4, none⟩ = some (.slice AM M.length cM)) (e5 : w.cell? ⟨b, 5, none⟩ = some (.slice AD D.length cD)) (_e6 : w.cell? ⟨b, 6, none⟩ = some (.slice AW W.length cW)) (_e7 : w.cell? ⟨b, 7, none⟩ = some (.slice AP P.length cP))
    (gD : decide ((0 : Int) < D.length) = true) (hf : (f == 1) = true)
    (hR : ∀ a' : Act, Keep 203 235 235 a0.tmps a'.tmps → a'.defers = a0.defers → a'.tmps.getD 235 undef = .bool true → Q .normal a' w) :
    (Code.region 32 ops32 false).wp Tryd.prog Q a0 w := by
  have hs := hs0
  have K := Keep.refl 203 235 235 a0.tmps
  have hd : a0.defers = a0.defers := rfl
  conv => arg 2; arg 2; whnf
  refine wp_region (show wpOps _ _ _ [0, 1, 2, 3, 4, 5, 6, 7, 8, 9, 10, 11, 12, 13, 14, 15, 16, 17, 18, 19, 20, 21, 22, 23, 24, 25, 26, 27, 28, 29, 30, 31, 32] _ _ from ?_)
  refine opsL 0 203 (v := .pointer (some ⟨b, 5, none⟩)) (by kernel_rfl) (by rw [hs]; decide) ?q133 ?q134
  case q133 => (intro o ho; obtain rfl := Option.some.inj ho; exact Or.inl ⟨rfl, k_field5 rfl (ev_tmp h1)⟩)
  case q134 =>
  intro a z h203 n e
  replace hs := z.trans hs
  replace hd := e.trans hd
  replace K := K.step z n (by decide)
  replace h1 := (n 1 (by decide)).trans h1
  clear z n e
  refine opsL 1 204 (v := .slice AD D.length cD) (by kernel_rfl) (by rw [hs]; decide) ?q135 ?q136
  case q135 => (intro o ho; obtain rfl := Option.some.inj ho; exact Or.inl ⟨rfl, k_loadL rfl (ev_tmp h203) e5⟩)
  case q136 =>
  intro a z h204 n e
  replace hs := z.trans hs
  replace hd := e.trans hd
  replace K := K.step z n (by decide)
  replace h1 := (n 1 (by decide)).trans h1
  clear h203
  clear z n e
  refine opsL 2 205 (v := .int .i64 D.length) (by kernel_rfl) (by rw [hs]; decide) ?q137 ?q138
  case q137 => (intro o ho; obtain rfl := Option.some.inj ho; exact Or.inl ⟨rfl, k_lenL rfl (ev_tmp h204)⟩)
  case q138 =>
  intro a z h205 n e
  replace hs := z.trans hs
  replace hd := e.trans hd
  replace K := K.step z n (by decide)
  replace h1 := (n 1 (by decide)).trans h1
  clear h204
  clear z n e
  refine opsL 3 206 (v := .bool true) (by kernel_rfl) (by rw [hs]; decide) ?q139 ?q140
  case q139 => (intro o ho; obtain rfl := Option.some.inj ho; exact Or.inl ⟨rfl, k_gt rfl (ev_tmp h205) rfl gD⟩)
  case q140 =>
  intro a z h206 n e
  replace hs := z.trans hs
  replace hd := e.trans hd
  replace K := K.step z n (by decide)
  replace h1 := (n 1 (by decide)).trans h1
  clear h205
  clear z n e
  refine opsL 4 207 (v := .bool true) (by kernel_rfl) (by rw [hs]; decide) ?q141 ?q142
  case q141 => (intro o ho; obtain rfl := Option.some.inj ho; exact Or.inl ⟨rfl, k_move rfl (ev_tmp h206)⟩)
  case q142 =>
  intro a z h207 n e
  replace hs := z.trans hs
  replace hd := e.trans hd
  replace K := K.step z n (by decide)
  replace h1 := (n 1 (by decide)).trans h1
  clear h206
  clear z n e
  refine opsL 5 208 (v := .pointer (some ⟨b, 0, none⟩)) (by kernel_rfl) (by rw [hs]; decide) ?q143 ?q144
  case q143 => (intro o ho; obtain rfl := Option.some.inj ho; exact Or.inl ⟨wanted_at (b := true) (want := true) rfl (by kernel_rfl) h207, k_field0 rfl (ev_tmp h1)⟩)
  case q144 =>
  intro a z h208 n e
  replace hs := z.trans hs
  replace hd := e.trans hd
  replace K := K.step z n (by decide)
  replace h1 := (n 1 (by decide)).trans h1
  replace h207 := (n 207 (by decide)).trans h207
  clear z n e
  refine opsL 6 209 (v := .int .i64 f) (by kernel_rfl) (by rw [hs]; decide) ?q145 ?q146
  case q145 => (intro o ho; obtain rfl := Option.some.inj ho; exact Or.inl ⟨wanted_at (b := true) (want := true) rfl (by kernel_rfl) h207, k_loadF rfl (ev_tmp h208) e0⟩)
  case q146 =>
  intro a z h209 n e
  replace hs := z.trans hs
  replace hd := e.trans hd
  replace K := K.step z n (by decide)
  replace h1 := (n 1 (by decide)).trans h1
  replace h207 := (n 207 (by decide)).trans h207
  clear h208
  clear z n e
  refine opsL 7 210 (v := .bool true) (by kernel_rfl) (by rw [hs]; decide) ?q147 ?q148
  case q147 => (intro o ho; obtain rfl := Option.some.inj ho; exact Or.inl ⟨wanted_at (b := true) (want := true) rfl (by kernel_rfl) h207, k_eqF rfl (ev_tmp h209) rfl hf⟩)
  case q148 =>
  intro a z h210 n e
  replace hs := z.trans hs
  replace hd := e.trans hd
  replace K := K.step z n (by decide)
  replace h1 := (n 1 (by decide)).trans h1
  replace h207 := (n 207 (by decide)).trans h207
  clear h209
  clear z n e
  refine opsL 8 211 (v := .bool true) (by kernel_rfl) (by rw [hs]; decide) ?q149 ?q150
  case q149 => (intro o ho; obtain rfl := Option.some.inj ho; exact Or.inl ⟨rfl, k_pick_yes rfl (ev_tmp h207) (ev_tmp h210)⟩)
  case q150 =>
  intro a z h211 n e
  replace hs := z.trans hs
  replace hd := e.trans hd
  replace K := K.step z n (by decide)
  replace h1 := (n 1 (by decide)).trans h1
  clear h207
  clear h210
  clear z n e
  refine opsL 9 212 (v := .bool true) (by kernel_rfl) (by rw [hs]; decide) ?q151 ?q152
  case q151 => (intro o ho; obtain rfl := Option.some.inj ho; exact Or.inl ⟨rfl, k_move rfl (ev_tmp h211)⟩)
  case q152 =>
  intro a z h212 n e
  replace hs := z.trans hs
  replace hd := e.trans hd
  replace K := K.step z n (by decide)
  replace h1 := (n 1 (by decide)).trans h1
  clear h211
  clear z n e
  refine opsL 10 213 (v := undef) (by kernel_rfl) (by rw [hs]; decide) ?q153 ?q154
  case q153 => (intro o ho; obtain rfl := Option.some.inj ho; exact Or.inr ⟨wanted_at (b := true) (want := false) rfl (by kernel_rfl) h212, rfl⟩)
  case q154 =>
  intro a z h213 n e
  replace hs := z.trans hs
  replace hd := e.trans hd
  replace K := K.step z n (by decide)
  replace h1 := (n 1 (by decide)).trans h1
  replace h212 := (n 212 (by decide)).trans h212
  clear z n e
  refine opsL 11 214 (v := undef) (by kernel_rfl) (by rw [hs]; decide) ?q155 ?q156
  case q155 => (intro o ho; obtain rfl := Option.some.inj ho; exact Or.inr ⟨wanted_at (b := true) (want := false) rfl (by kernel_rfl) h212, rfl⟩)
  case q156 =>
  intro a z h214 n e
  replace hs := z.trans hs
  replace hd := e.trans hd
  replace K := K.step z n (by decide)
  replace h1 := (n 1 (by decide)).trans h1
  replace h212 := (n 212 (by decide)).trans h212
  clear h213
  clear z n e
  refine opsL 12 215 (v := undef) (by kernel_rfl) (by rw [hs]; decide) ?q157 ?q158
  case q157 => (intro o ho; obtain rfl := Option.some.inj ho; exact Or.inr ⟨wanted_at (b := true) (want := false) rfl (by kernel_rfl) h212, rfl⟩)
  case q158 =>
  intro a z h215 n e
  replace hs := z.trans hs
  replace hd := e.trans hd
  replace K := K.step z n (by decide)
  replace h1 := (n 1 (by decide)).trans h1
  replace h212 := (n 212 (by decide)).trans h212
  clear h214
  clear z n e
  refine opsL 13 216 (v := undef) (by kernel_rfl) (by rw [hs]; decide) ?q159 ?q160
  case q159 => (intro o ho; obtain rfl := Option.some.inj ho; exact Or.inr ⟨wanted_at (b := true) (want := false) rfl (by kernel_rfl) h212, rfl⟩)
  case q160 =>
  intro a z h216 n e
  replace hs := z.trans hs
  replace hd := e.trans hd
  replace K := K.step z n (by decide)
  replace h1 := (n 1 (by decide)).trans h1
  replace h212 := (n 212 (by decide)).trans h212
  clear h215
  clear z n e
  refine opsL 14 217 (v := undef) (by kernel_rfl) (by rw [hs]; decide) ?q161 ?q162
  case q161 => (intro o ho; obtain rfl := Option.some.inj ho; exact Or.inr ⟨wanted_at (b := true) (want := false) rfl (by kernel_rfl) h212, rfl⟩)
  case q162 =>
  intro a z h217 n e
  replace hs := z.trans hs
  replace hd := e.trans hd
  replace K := K.step z n (by decide)
  replace h1 := (n 1 (by decide)).trans h1
  replace h212 := (n 212 (by decide)).trans h212
  clear h216
  clear z n e
  refine opsL 15 218 (v := undef) (by kernel_rfl) (by rw [hs]; decide) ?q163 ?q164
  case q163 => (intro o ho; obtain rfl := Option.some.inj ho; exact Or.inr ⟨wanted_not (want := true) rfl (by kernel_rfl) h217, rfl⟩)
  case q164 =>
  intro a z h218 n e
  replace hs := z.trans hs
  replace hd := e.trans hd
  replace K := K.step z n (by decide)
  replace h1 := (n 1 (by decide)).trans h1
  replace h212 := (n 212 (by decide)).trans h212
  replace h217 := (n 217 (by decide)).trans h217
  clear z n e
  refine opsL 16 219 (v := undef) (by kernel_rfl) (by rw [hs]; decide) ?q165 ?q166
  case q165 => (intro o ho; obtain rfl := Option.some.inj ho; exact Or.inr ⟨wanted_not (want := true) rfl (by kernel_rfl) h217, rfl⟩)
  case q166 =>
  intro a z h219 n e
  replace hs := z.trans hs
  replace hd := e.trans hd
  replace K := K.step z n (by decide)
  replace h1 := (n 1 (by decide)).trans h1
  replace h212 := (n 212 (by decide)).trans h212
  replace h217 := (n 217 (by decide)).trans h217
  clear h218
  clear z n e
  refine opsL 17 220 (v := undef) (by kernel_rfl) (by rw [hs]; decide) ?q167 ?q168
  case q167 => (intro o ho; obtain rfl := Option.some.inj ho; exact Or.inr ⟨wanted_not (want := true) rfl (by kernel_rfl) h217, rfl⟩)
  case q168 =>
  intro a z h220 n e
  replace hs := z.trans hs
  replace hd := e.trans hd
  replace K := K.step z n (by decide)
  replace h1 := (n 1 (by decide)).trans h1
  replace h212 := (n 212 (by decide)).trans h212
  replace h217 := (n 217 (by decide)).trans h217
  clear h219
  clear z n e
  refine opsL 18 221 (v := undef) (by kernel_rfl) (by rw [hs]; decide) ?q169 ?q170
  case q169 => (intro o ho; obtain rfl := Option.some.inj ho; exact Or.inr ⟨wanted_not (want := true) rfl (by kernel_rfl) h217, rfl⟩)
  case q170 =>
  intro a z h221 n e
  replace hs := z.trans hs
  replace hd := e.trans hd
  replace K := K.step z n (by decide)
  replace h1 := (n 1 (by decide)).trans h1
  replace h212 := (n 212 (by decide)).trans h212
  replace h217 := (n 217 (by decide)).trans h217
  clear h220
  clear z n e
  refine opsL 19 222 (v := undef) (by kernel_rfl) (by rw [hs]; decide) ?q171 ?q172
  case q171 => (intro o ho; obtain rfl := Option.some.inj ho; exact Or.inr ⟨wanted_at (b := true) (want := false) rfl (by kernel_rfl) h212, rfl⟩)
  case q172 =>
  intro a z h222 n e
  replace hs := z.trans hs
  replace hd := e.trans hd
  replace K := K.step z n (by decide)
  replace h1 := (n 1 (by decide)).trans h1
  replace h212 := (n 212 (by decide)).trans h212
  clear h217
  clear h221
  clear z n e
  refine opsL 20 223 (v := undef) (by kernel_rfl) (by rw [hs]; decide) ?q173 ?q174
  case q173 => (intro o ho; obtain rfl := Option.some.inj ho; exact Or.inr ⟨wanted_at (b := true) (want := false) rfl (by kernel_rfl) h212, rfl⟩)
  case q174 =>
  intro a z h223 n e
  replace hs := z.trans hs
  replace hd := e.trans hd
  replace K := K.step z n (by decide)
  replace h1 := (n 1 (by decide)).trans h1
  replace h212 := (n 212 (by decide)).trans h212
  clear h222
  clear z n e
  refine opsL 21 224 (v := undef) (by kernel_rfl) (by rw [hs]; decide) ?q175 ?q176
  case q175 => (intro o ho; obtain rfl := Option.some.inj ho; exact Or.inr ⟨wanted_not (want := true) rfl (by kernel_rfl) h223, rfl⟩)
  case q176 =>
  intro a z h224 n e
  replace hs := z.trans hs
  replace hd := e.trans hd
  replace K := K.step z n (by decide)
  replace h1 := (n 1 (by decide)).trans h1
  replace h212 := (n 212 (by decide)).trans h212
  replace h223 := (n 223 (by decide)).trans h223
  clear z n e
  refine opsL 22 225 (v := undef) (by kernel_rfl) (by rw [hs]; decide) ?q177 ?q178
  case q177 => (intro o ho; obtain rfl := Option.some.inj ho; exact Or.inr ⟨wanted_not (want := true) rfl (by kernel_rfl) h223, rfl⟩)
  case q178 =>
  intro a z h225 n e
  replace hs := z.trans hs
  replace hd := e.trans hd
  replace K := K.step z n (by decide)
  replace h1 := (n 1 (by decide)).trans h1
  replace h212 := (n 212 (by decide)).trans h212
  replace h223 := (n 223 (by decide)).trans h223
  clear h224
  clear z n e
  refine opsL 23 226 (v := undef) (by kernel_rfl) (by rw [hs]; decide) ?q179 ?q180
  case q179 => (intro o ho; obtain rfl := Option.some.inj ho; exact Or.inr ⟨wanted_not (want := true) rfl (by kernel_rfl) h223, rfl⟩)
  case q180 =>
  intro a z h226 n e
  replace hs := z.trans hs
  replace hd := e.trans hd
  replace K := K.step z n (by decide)
  replace h1 := (n 1 (by decide)).trans h1
  replace h212 := (n 212 (by decide)).trans h212
  replace h223 := (n 223 (by decide)).trans h223
  clear h225
  clear z n e
  refine opsL 24 227 (v := undef) (by kernel_rfl) (by rw [hs]; decide) ?q181 ?q182
  case q181 => (intro o ho; obtain rfl := Option.some.inj ho; exact Or.inr ⟨wanted_not (want := true) rfl (by kernel_rfl) h223, rfl⟩)
  case q182 =>
  intro a z h227 n e
  replace hs := z.trans hs
  replace hd := e.trans hd
  replace K := K.step z n (by decide)
  replace h1 := (n 1 (by decide)).trans h1
  replace h212 := (n 212 (by decide)).trans h212
  replace h223 := (n 223 (by decide)).trans h223
  clear h226
  clear z n e
  refine opsL 25 228 (v := undef) (by kernel_rfl) (by rw [hs]; decide) ?q183 ?q184
  case q183 => (intro o ho; obtain rfl := Option.some.inj ho; exact Or.inr ⟨wanted_at (b := true) (want := false) rfl (by kernel_rfl) h212, rfl⟩)
  case q184 =>
  intro a z h228 n e
  replace hs := z.trans hs
  replace hd := e.trans hd
  replace K := K.step z n (by decide)
  replace h1 := (n 1 (by decide)).trans h1
  replace h212 := (n 212 (by decide)).trans h212
  clear h223
  clear h227
  clear z n e
  refine opsL 26 229 (v := undef) (by kernel_rfl) (by rw [hs]; decide) ?q185 ?q186
  case q185 => (intro o ho; obtain rfl := Option.some.inj ho; exact Or.inr ⟨wanted_at (b := true) (want := false) rfl (by kernel_rfl) h212, rfl⟩)
  case q186 =>
  intro a z h229 n e
  replace hs := z.trans hs
  replace hd := e.trans hd
  replace K := K.step z n (by decide)
  replace h1 := (n 1 (by decide)).trans h1
  replace h212 := (n 212 (by decide)).trans h212
  clear h228
  clear z n e
  refine opsL 27 230 (v := undef) (by kernel_rfl) (by rw [hs]; decide) ?q187 ?q188
  case q187 => (intro o ho; obtain rfl := Option.some.inj ho; exact Or.inr ⟨wanted_not (want := true) rfl (by kernel_rfl) h229, rfl⟩)
  case q188 =>
  intro a z h230 n e
  replace hs := z.trans hs
  replace hd := e.trans hd
  replace K := K.step z n (by decide)
  replace h1 := (n 1 (by decide)).trans h1
  replace h212 := (n 212 (by decide)).trans h212
  replace h229 := (n 229 (by decide)).trans h229
  clear z n e
  refine opsL 28 231 (v := undef) (by kernel_rfl) (by rw [hs]; decide) ?q189 ?q190
  case q189 => (intro o ho; obtain rfl := Option.some.inj ho; exact Or.inr ⟨wanted_not (want := true) rfl (by kernel_rfl) h229, rfl⟩)
  case q190 =>
  intro a z h231 n e
  replace hs := z.trans hs
  replace hd := e.trans hd
  replace K := K.step z n (by decide)
  replace h1 := (n 1 (by decide)).trans h1
  replace h212 := (n 212 (by decide)).trans h212
  replace h229 := (n 229 (by decide)).trans h229
  clear h230
  clear z n e
  refine opsL 29 232 (v := undef) (by kernel_rfl) (by rw [hs]; decide) ?q191 ?q192
  case q191 => (intro o ho; obtain rfl := Option.some.inj ho; exact Or.inr ⟨wanted_not (want := true) rfl (by kernel_rfl) h229, rfl⟩)
  case q192 =>
  intro a z h232 n e
  replace hs := z.trans hs
  replace hd := e.trans hd
  replace K := K.step z n (by decide)
  replace h1 := (n 1 (by decide)).trans h1
  replace h212 := (n 212 (by decide)).trans h212
  replace h229 := (n 229 (by decide)).trans h229
  clear h231
  clear z n e
  refine opsL 30 233 (v := undef) (by kernel_rfl) (by rw [hs]; decide) ?q193 ?q194
  case q193 => (intro o ho; obtain rfl := Option.some.inj ho; exact Or.inr ⟨wanted_not (want := true) rfl (by kernel_rfl) h229, rfl⟩)
  case q194 =>
  intro a z h233 n e
  replace hs := z.trans hs
  replace hd := e.trans hd
  replace K := K.step z n (by decide)
  replace h1 := (n 1 (by decide)).trans h1
  replace h212 := (n 212 (by decide)).trans h212
  replace h229 := (n 229 (by decide)).trans h229
  clear h232
  clear z n e
  refine opsL 31 234 (v := undef) (by kernel_rfl) (by rw [hs]; decide) ?q195 ?q196
  case q195 => (intro o ho; obtain rfl := Option.some.inj ho; exact Or.inr ⟨wanted_at (b := true) (want := false) rfl (by kernel_rfl) h212, rfl⟩)
  case q196 =>
  intro a z h234 n e
  replace hs := z.trans hs
  replace hd := e.trans hd
  replace K := K.step z n (by decide)
  replace h1 := (n 1 (by decide)).trans h1
  replace h212 := (n 212 (by decide)).trans h212
  clear h229
  clear h233
  clear z n e
  refine opsL 32 235 (v := .bool true) (by kernel_rfl) (by rw [hs]; decide) ?q197 ?q198
  case q197 => (intro o ho; obtain rfl := Option.some.inj ho; exact Or.inl ⟨rfl, k_pick_yes rfl (ev_tmp h212) rfl⟩)
  case q198 =>
  intro a z h235 n e
  replace hs := z.trans hs
  replace hd := e.trans hd
  replace K := K.step z n (by decide)
  replace h1 := (n 1 (by decide)).trans h1
  clear h212
  clear h234
  clear z n e
  exact hR _ K hd h235

set_option maxRecDepth 100000 in
set_option maxHeartbeats 1000000 in
theorem reg32_dn (a0 : Act) (w : World) (Q : Exit → Act → World → Prop) (b : Nat) (f : Int) (AM AD AW AP : Option Addr) (cM cD cW cP : Nat) (M D : List Int) (W : List (Int × Int)) (P : List Int) (hs0 : a0.tmps.size = 236) (h1 : a0.tmps.getD 1 undef = .pointer (some ⟨b, 0, none⟩))
    (e0 : w.cell? ⟨b, 0, none⟩ = some (.int .i64 f)) (_e4 : w.cell? ⟨b, 4, none⟩ = some (.slice AM M.length cM)) (e5 : w.cell? ⟨b, 5, none⟩ = some (.slice AD D.length cD)) (_e6 : w.cell? ⟨b, 6, none⟩ = some (.slice AW W.length cW)) (e7 : w.cell? ⟨b, 7, none⟩ = some (.slice AP P.length cP))
    (gD : decide ((0 : Int) < D.length) = true) (hf : (f == 1) = false) (gP : decide ((0 : Int) < P.length) = false)
    (hR : ∀ a' : Act, Keep 203 235 235 a0.tmps a'.tmps → a'.defers = a0.defers → a'.tmps.getD 235 undef = .bool false → Q .normal a' w) :
    (Code.region 32 ops32 false).wp Tryd.prog Q a0 w := by
  have hs := hs0
  have K := Keep.refl 203 235 235 a0.tmps
  have hd : a0.defers = a0.defers := rfl
  conv => arg 2; arg 2; whnf
  refine wp_region (show wpOps _ _ _ [0, 1, 2, 3, 4, 5, 6, 7, 8, 9, 10, 11, 12, 13, 14, 15, 16, 17, 18, 19, 20, 21, 22, 23, 24, 25, 26, 27, 28, 29, 30, 31, 32] _ _ from ?_)
  refine opsL 0 203 (v := .pointer (some ⟨b, 5, none⟩)) (by kernel_rfl) (by rw [hs]; decide) ?q199 ?q200
  case q199 => (intro o ho; obtain rfl := Option.some.inj ho; exact Or.inl ⟨rfl, k_field5 rfl (ev_tmp h1)⟩)
  case q200 =>
  intro a z h203 n e
  replace hs := z.trans hs
  replace hd := e.trans hd
  replace K := K.step z n (by decide)
  replace h1 := (n 1 (by decide)).trans h1
  clear z n e
  refine opsL 1 204 (v := .slice AD D.length cD) (by kernel_rfl) (by rw [hs]; decide) ?q201 ?q202
  case q201 => (intro o ho; obtain rfl := Option.some.inj ho; exact Or.inl ⟨rfl, k_loadL rfl (ev_tmp h203) e5⟩)
  case q202 =>
  intro a z h204 n e
  replace hs := z.trans hs
  replace hd := e.trans hd
  replace K := K.step z n (by decide)
  replace h1 := (n 1 (by decide)).trans h1
  clear h203
  clear z n e
  refine opsL 2 205 (v := .int .i64 D.length) (by kernel_rfl) (by rw [hs]; decide) ?q203 ?q204
  case q203 => (intro o ho; obtain rfl := Option.some.inj ho; exact Or.inl ⟨rfl, k_lenL rfl (ev_tmp h204)⟩)
  case q204 =>
  intro a z h205 n e
  replace hs := z.trans hs
  replace hd := e.trans hd
  replace K := K.step z n (by decide)
  replace h1 := (n 1 (by decide)).trans h1
  clear h204
  clear z n e
  refine opsL 3 206 (v := .bool true) (by kernel_rfl) (by rw [hs]; decide) ?q205 ?q206
  case q205 => (intro o ho; obtain rfl := Option.some.inj ho; exact Or.inl ⟨rfl, k_gt rfl (ev_tmp h205) rfl gD⟩)
  case q206 =>
  intro a z h206 n e
  replace hs := z.trans hs
  replace hd := e.trans hd
  replace K := K.step z n (by decide)
  replace h1 := (n 1 (by decide)).trans h1
  clear h205
  clear z n e
  refine opsL 4 207 (v := .bool true) (by kernel_rfl) (by rw [hs]; decide) ?q207 ?q208
  case q207 => (intro o ho; obtain rfl := Option.some.inj ho; exact Or.inl ⟨rfl, k_move rfl (ev_tmp h206)⟩)
  case q208 =>
  intro a z h207 n e
  replace hs := z.trans hs
  replace hd := e.trans hd
  replace K := K.step z n (by decide)
  replace h1 := (n 1 (by decide)).trans h1
  clear h206
  clear z n e
  refine opsL 5 208 (v := .pointer (some ⟨b, 0, none⟩)) (by kernel_rfl) (by rw [hs]; decide) ?q209 ?q210
  case q209 => (intro o ho; obtain rfl := Option.some.inj ho; exact Or.inl ⟨wanted_at (b := true) (want := true) rfl (by kernel_rfl) h207, k_field0 rfl (ev_tmp h1)⟩)
  case q210 =>
  intro a z h208 n e
  replace hs := z.trans hs
  replace hd := e.trans hd
  replace K := K.step z n (by decide)
  replace h1 := (n 1 (by decide)).trans h1
  replace h207 := (n 207 (by decide)).trans h207
  clear z n e
  refine opsL 6 209 (v := .int .i64 f) (by kernel_rfl) (by rw [hs]; decide) ?q211 ?q212
  case q211 => (intro o ho; obtain rfl := Option.some.inj ho; exact Or.inl ⟨wanted_at (b := true) (want := true) rfl (by kernel_rfl) h207, k_loadF rfl (ev_tmp h208) e0⟩)
  case q212 =>
  intro a z h209 n e
  replace hs := z.trans hs
  replace hd := e.trans hd
  replace K := K.step z n (by decide)
  replace h1 := (n 1 (by decide)).trans h1
  replace h207 := (n 207 (by decide)).trans h207
  clear h208
  clear z n e
  refine opsL 7 210 (v := .bool false) (by kernel_rfl) (by rw [hs]; decide) ?q213 ?q214
  case q213 => (intro o ho; obtain rfl := Option.some.inj ho; exact Or.inl ⟨wanted_at (b := true) (want := true) rfl (by kernel_rfl) h207, k_eqF rfl (ev_tmp h209) rfl hf⟩)
  case q214 =>
  intro a z h210 n e
  replace hs := z.trans hs
  replace hd := e.trans hd
  replace K := K.step z n (by decide)
  replace h1 := (n 1 (by decide)).trans h1
  replace h207 := (n 207 (by decide)).trans h207
  clear h209
  clear z n e
  refine opsL 8 211 (v := .bool false) (by kernel_rfl) (by rw [hs]; decide) ?q215 ?q216
  case q215 => (intro o ho; obtain rfl := Option.some.inj ho; exact Or.inl ⟨rfl, k_pick_yes rfl (ev_tmp h207) (ev_tmp h210)⟩)
  case q216 =>
  intro a z h211 n e
  replace hs := z.trans hs
  replace hd := e.trans hd
  replace K := K.step z n (by decide)
  replace h1 := (n 1 (by decide)).trans h1
  clear h207
  clear h210
  clear z n e
  refine opsL 9 212 (v := .bool false) (by kernel_rfl) (by rw [hs]; decide) ?q217 ?q218
  case q217 => (intro o ho; obtain rfl := Option.some.inj ho; exact Or.inl ⟨rfl, k_move rfl (ev_tmp h211)⟩)
  case q218 =>
  intro a z h212 n e
  replace hs := z.trans hs
  replace hd := e.trans hd
  replace K := K.step z n (by decide)
  replace h1 := (n 1 (by decide)).trans h1
  clear h211
  clear z n e
  refine opsL 10 213 (v := .pointer (some ⟨b, 7, none⟩)) (by kernel_rfl) (by rw [hs]; decide) ?q219 ?q220
  case q219 => (intro o ho; obtain rfl := Option.some.inj ho; exact Or.inl ⟨wanted_at (b := false) (want := false) rfl (by kernel_rfl) h212, k_field7 rfl (ev_tmp h1)⟩)
  case q220 =>
  intro a z h213 n e
  replace hs := z.trans hs
  replace hd := e.trans hd
  replace K := K.step z n (by decide)
  replace h1 := (n 1 (by decide)).trans h1
  replace h212 := (n 212 (by decide)).trans h212
  clear z n e
  refine opsL 11 214 (v := .slice AP P.length cP) (by kernel_rfl) (by rw [hs]; decide) ?q221 ?q222
  case q221 => (intro o ho; obtain rfl := Option.some.inj ho; exact Or.inl ⟨wanted_at (b := false) (want := false) rfl (by kernel_rfl) h212, k_loadL rfl (ev_tmp h213) e7⟩)
  case q222 =>
  intro a z h214 n e
  replace hs := z.trans hs
  replace hd := e.trans hd
  replace K := K.step z n (by decide)
  replace h1 := (n 1 (by decide)).trans h1
  replace h212 := (n 212 (by decide)).trans h212
  clear h213
  clear z n e
  refine opsL 12 215 (v := .int .i64 P.length) (by kernel_rfl) (by rw [hs]; decide) ?q223 ?q224
  case q223 => (intro o ho; obtain rfl := Option.some.inj ho; exact Or.inl ⟨wanted_at (b := false) (want := false) rfl (by kernel_rfl) h212, k_lenL rfl (ev_tmp h214)⟩)
  case q224 =>
  intro a z h215 n e
  replace hs := z.trans hs
  replace hd := e.trans hd
  replace K := K.step z n (by decide)
  replace h1 := (n 1 (by decide)).trans h1
  replace h212 := (n 212 (by decide)).trans h212
  clear h214
  clear z n e
  refine opsL 13 216 (v := .bool false) (by kernel_rfl) (by rw [hs]; decide) ?q225 ?q226
  case q225 => (intro o ho; obtain rfl := Option.some.inj ho; exact Or.inl ⟨wanted_at (b := false) (want := false) rfl (by kernel_rfl) h212, k_gt rfl (ev_tmp h215) rfl gP⟩)
  case q226 =>
  intro a z h216 n e
  replace hs := z.trans hs
  replace hd := e.trans hd
  replace K := K.step z n (by decide)
  replace h1 := (n 1 (by decide)).trans h1
  replace h212 := (n 212 (by decide)).trans h212
  clear h215
  clear z n e
  refine opsL 14 217 (v := .bool false) (by kernel_rfl) (by rw [hs]; decide) ?q227 ?q228
  case q227 => (intro o ho; obtain rfl := Option.some.inj ho; exact Or.inl ⟨wanted_at (b := false) (want := false) rfl (by kernel_rfl) h212, k_move rfl (ev_tmp h216)⟩)
  case q228 =>
  intro a z h217 n e
  replace hs := z.trans hs
  replace hd := e.trans hd
  replace K := K.step z n (by decide)
  replace h1 := (n 1 (by decide)).trans h1
  replace h212 := (n 212 (by decide)).trans h212
  clear h216
  clear z n e
  refine opsL 15 218 (v := undef) (by kernel_rfl) (by rw [hs]; decide) ?q229 ?q230
  case q229 => (intro o ho; obtain rfl := Option.some.inj ho; exact Or.inr ⟨wanted_at (b := false) (want := true) rfl (by kernel_rfl) h217, rfl⟩)
  case q230 =>
  intro a z h218 n e
  replace hs := z.trans hs
  replace hd := e.trans hd
  replace K := K.step z n (by decide)
  replace h1 := (n 1 (by decide)).trans h1
  replace h212 := (n 212 (by decide)).trans h212
  replace h217 := (n 217 (by decide)).trans h217
  clear z n e
  refine opsL 16 219 (v := undef) (by kernel_rfl) (by rw [hs]; decide) ?q231 ?q232
  case q231 => (intro o ho; obtain rfl := Option.some.inj ho; exact Or.inr ⟨wanted_at (b := false) (want := true) rfl (by kernel_rfl) h217, rfl⟩)
  case q232 =>
  intro a z h219 n e
  replace hs := z.trans hs
  replace hd := e.trans hd
  replace K := K.step z n (by decide)
  replace h1 := (n 1 (by decide)).trans h1
  replace h212 := (n 212 (by decide)).trans h212
  replace h217 := (n 217 (by decide)).trans h217
  clear h218
  clear z n e
  refine opsL 17 220 (v := undef) (by kernel_rfl) (by rw [hs]; decide) ?q233 ?q234
  case q233 => (intro o ho; obtain rfl := Option.some.inj ho; exact Or.inr ⟨wanted_at (b := false) (want := true) rfl (by kernel_rfl) h217, rfl⟩)
  case q234 =>
  intro a z h220 n e
  replace hs := z.trans hs
  replace hd := e.trans hd
  replace K := K.step z n (by decide)
  replace h1 := (n 1 (by decide)).trans h1
  replace h212 := (n 212 (by decide)).trans h212
  replace h217 := (n 217 (by decide)).trans h217
  clear h219
  clear z n e
  refine opsL 18 221 (v := undef) (by kernel_rfl) (by rw [hs]; decide) ?q235 ?q236
  case q235 => (intro o ho; obtain rfl := Option.some.inj ho; exact Or.inr ⟨wanted_at (b := false) (want := true) rfl (by kernel_rfl) h217, rfl⟩)
  case q236 =>
  intro a z h221 n e
  replace hs := z.trans hs
  replace hd := e.trans hd
  replace K := K.step z n (by decide)
  replace h1 := (n 1 (by decide)).trans h1
  replace h212 := (n 212 (by decide)).trans h212
  replace h217 := (n 217 (by decide)).trans h217
  clear h220
  clear z n e
  refine opsL 19 222 (v := .bool false) (by kernel_rfl) (by rw [hs]; decide) ?q237 ?q238
  case q237 => (intro o ho; obtain rfl := Option.some.inj ho; exact Or.inl ⟨wanted_at (b := false) (want := false) rfl (by kernel_rfl) h212, k_pick_no rfl (ev_tmp h217) rfl⟩)
  case q238 =>
  intro a z h222 n e
  replace hs := z.trans hs
  replace hd := e.trans hd
  replace K := K.step z n (by decide)
  replace h1 := (n 1 (by decide)).trans h1
  replace h212 := (n 212 (by decide)).trans h212
  clear h217
  clear h221
  clear z n e
  refine opsL 20 223 (v := .bool false) (by kernel_rfl) (by rw [hs]; decide) ?q239 ?q240
  case q239 => (intro o ho; obtain rfl := Option.some.inj ho; exact Or.inl ⟨wanted_at (b := false) (want := false) rfl (by kernel_rfl) h212, k_move rfl (ev_tmp h222)⟩)
  case q240 =>
  intro a z h223 n e
  replace hs := z.trans hs
  replace hd := e.trans hd
  replace K := K.step z n (by decide)
  replace h1 := (n 1 (by decide)).trans h1
  replace h212 := (n 212 (by decide)).trans h212
  clear h222
  clear z n e
  refine opsL 21 224 (v := undef) (by kernel_rfl) (by rw [hs]; decide) ?q241 ?q242
  case q241 => (intro o ho; obtain rfl := Option.some.inj ho; exact Or.inr ⟨wanted_at (b := false) (want := true) rfl (by kernel_rfl) h223, rfl⟩)
  case q242 =>
  intro a z h224 n e
  replace hs := z.trans hs
  replace hd := e.trans hd
  replace K := K.step z n (by decide)
  replace h1 := (n 1 (by decide)).trans h1
  replace h212 := (n 212 (by decide)).trans h212
  replace h223 := (n 223 (by decide)).trans h223
  clear z n e
  refine opsL 22 225 (v := undef) (by kernel_rfl) (by rw [hs]; decide) ?q243 ?q244
  case q243 => (intro o ho; obtain rfl := Option.some.inj ho; exact Or.inr ⟨wanted_at (b := false) (want := true) rfl (by kernel_rfl) h223, rfl⟩)
  case q244 =>
  intro a z h225 n e
  replace hs := z.trans hs
  replace hd := e.trans hd
  replace K := K.step z n (by decide)
  replace h1 := (n 1 (by decide)).trans h1
  replace h212 := (n 212 (by decide)).trans h212
  replace h223 := (n 223 (by decide)).trans h223
  clear h224
  clear z n e
  refine opsL 23 226 (v := undef) (by kernel_rfl) (by rw [hs]; decide) ?q245 ?q246
  case q245 => (intro o ho; obtain rfl := Option.some.inj ho; exact Or.inr ⟨wanted_at (b := false) (want := true) rfl (by kernel_rfl) h223, rfl⟩)
  case q246 =>
  intro a z h226 n e
  replace hs := z.trans hs
  replace hd := e.trans hd
  replace K := K.step z n (by decide)
  replace h1 := (n 1 (by decide)).trans h1
  replace h212 := (n 212 (by decide)).trans h212
  replace h223 := (n 223 (by decide)).trans h223
  clear h225
  clear z n e
  refine opsL 24 227 (v := undef) (by kernel_rfl) (by rw [hs]; decide) ?q247 ?q248
  case q247 => (intro o ho; obtain rfl := Option.some.inj ho; exact Or.inr ⟨wanted_at (b := false) (want := true) rfl (by kernel_rfl) h223, rfl⟩)
  case q248 =>
  intro a z h227 n e
  replace hs := z.trans hs
  replace hd := e.trans hd
  replace K := K.step z n (by decide)
  replace h1 := (n 1 (by decide)).trans h1
  replace h212 := (n 212 (by decide)).trans h212
  replace h223 := (n 223 (by decide)).trans h223
  clear h226
  clear z n e
  refine opsL 25 228 (v := .bool false) (by kernel_rfl) (by rw [hs]; decide) ?q249 ?q250
  case q249 => (intro o ho; obtain rfl := Option.some.inj ho; exact Or.inl ⟨wanted_at (b := false) (want := false) rfl (by kernel_rfl) h212, k_pick_no rfl (ev_tmp h223) rfl⟩)
  case q250 =>
  intro a z h228 n e
  replace hs := z.trans hs
  replace hd := e.trans hd
  replace K := K.step z n (by decide)
  replace h1 := (n 1 (by decide)).trans h1
  replace h212 := (n 212 (by decide)).trans h212
  clear h223
  clear h227
  clear z n e
  refine opsL 26 229 (v := .bool false) (by kernel_rfl) (by rw [hs]; decide) ?q251 ?q252
  case q251 => (intro o ho; obtain rfl := Option.some.inj ho; exact Or.inl ⟨wanted_at (b := false) (want := false) rfl (by kernel_rfl) h212, k_move rfl (ev_tmp h228)⟩)
  case q252 =>
  intro a z h229 n e
  replace hs := z.trans hs
  replace hd := e.trans hd
  replace K := K.step z n (by decide)
  replace h1 := (n 1 (by decide)).trans h1
  replace h212 := (n 212 (by decide)).trans h212
  clear h228
  clear z n e
  refine opsL 27 230 (v := undef) (by kernel_rfl) (by rw [hs]; decide) ?q253 ?q254
  case q253 => (intro o ho; obtain rfl := Option.some.inj ho; exact Or.inr ⟨wanted_at (b := false) (want := true) rfl (by kernel_rfl) h229, rfl⟩)
  case q254 =>
  intro a z h230 n e
  replace hs := z.trans hs
  replace hd := e.trans hd
  replace K := K.step z n (by decide)
  replace h1 := (n 1 (by decide)).trans h1
  replace h212 := (n 212 (by decide)).trans h212
  replace h229 := (n 229 (by decide)).trans h229
  clear z n e
  refine opsL 28 231 (v := undef) (by kernel_rfl) (by rw [hs]; decide) ?q255 ?q256
  case q255 => (intro o ho; obtain rfl := Option.some.inj ho; exact Or.inr ⟨wanted_at (b := false) (want := true) rfl (by kernel_rfl) h229, rfl⟩)
  case q256 =>
  intro a z h231 n e
  replace hs := z.trans hs
  replace hd := e.trans hd
  replace K := K.step z n (by decide)
  replace h1 := (n 1 (by decide)).trans h1
  replace h212 := (n 212 (by decide)).trans h212
  replace h229 := (n 229 (by decide)).trans h229
  clear h230
  clear z n e
  refine opsL 29 232 (v := undef) (by kernel_rfl) (by rw [hs]; decide) ?q257 ?q258
  case q257 => (intro o ho; obtain rfl := Option.some.inj ho; exact Or.inr ⟨wanted_at (b := false) (want := true) rfl (by kernel_rfl) h229, rfl⟩)
  case q258 =>
  intro a z h232 n e
  replace hs := z.trans hs
  replace hd := e.trans hd
  replace K := K.step z n (by decide)
  replace h1 := (n 1 (by decide)).trans h1
  replace h212 := (n 212 (by decide)).trans h212
  replace h229 := (n 229 (by decide)).trans h229
  clear h231
  clear z n e
  refine opsL 30 233 (v := undef) (by kernel_rfl) (by rw [hs]; decide) ?q259 ?q260
  case q259 => (intro o ho; obtain rfl := Option.some.inj ho; exact Or.inr ⟨wanted_at (b := false) (want := true) rfl (by kernel_rfl) h229, rfl⟩)
  case q260 =>
  intro a z h233 n e
  replace hs := z.trans hs
  replace hd := e.trans hd
  replace K := K.step z n (by decide)
  replace h1 := (n 1 (by decide)).trans h1
  replace h212 := (n 212 (by decide)).trans h212
  replace h229 := (n 229 (by decide)).trans h229
  clear h232
  clear z n e
  refine opsL 31 234 (v := .bool false) (by kernel_rfl) (by rw [hs]; decide) ?q261 ?q262
  case q261 => (intro o ho; obtain rfl := Option.some.inj ho; exact Or.inl ⟨wanted_at (b := false) (want := false) rfl (by kernel_rfl) h212, k_pick_no rfl (ev_tmp h229) rfl⟩)
  case q262 =>
  intro a z h234 n e
  replace hs := z.trans hs
  replace hd := e.trans hd
  replace K := K.step z n (by decide)
  replace h1 := (n 1 (by decide)).trans h1
  replace h212 := (n 212 (by decide)).trans h212
  clear h229
  clear h233
  clear z n e
  refine opsL 32 235 (v := .bool false) (by kernel_rfl) (by rw [hs]; decide) ?q263 ?q264
  case q263 => (intro o ho; obtain rfl := Option.some.inj ho; exact Or.inl ⟨rfl, k_pick_no rfl (ev_tmp h212) (ev_tmp h234)⟩)
  case q264 =>
  intro a z h235 n e
  replace hs := z.trans hs
  replace hd := e.trans hd
  replace K := K.step z n (by decide)
  replace h1 := (n 1 (by decide)).trans h1
  clear h212
  clear h234
  clear z n e
  exact hR _ K hd h235

set_option maxRecDepth 100000 in
set_option maxHeartbeats 1000000 in
theorem reg32_dpm (a0 : Act) (w : World) (Q : Exit → Act → World → Prop) (b : Nat) (f : Int) (AM AD AW AP : Option Addr) (cM cD cW cP : Nat) (M D : List Int) (W : List (Int × Int)) (P : List Int) (hs0 : a0.tmps.size = 236) (h1 : a0.tmps.getD 1 undef = .pointer (some ⟨b, 0, none⟩))
    (e0 : w.cell? ⟨b, 0, none⟩ = some (.int .i64 f)) (e4 : w.cell? ⟨b, 4, none⟩ = some (.slice AM M.length cM)) (e5 : w.cell? ⟨b, 5, none⟩ = some (.slice AD D.length cD)) (_e6 : w.cell? ⟨b, 6, none⟩ = some (.slice AW W.length cW)) (e7 : w.cell? ⟨b, 7, none⟩ = some (.slice AP P.length cP))
    (gD : decide ((0 : Int) < D.length) = true) (hf : (f == 1) = false) (gP : decide ((0 : Int) < P.length) = true) (zM : ((M.length : Int) == 0) = false)
    (hR : ∀ a' : Act, Keep 203 235 235 a0.tmps a'.tmps → a'.defers = a0.defers → a'.tmps.getD 235 undef = .bool false → Q .normal a' w) :
    (Code.region 32 ops32 false).wp Tryd.prog Q a0 w := by
  have hs := hs0
  have K := Keep.refl 203 235 235 a0.tmps
  have hd : a0.defers = a0.defers := rfl
  conv => arg 2; arg 2; whnf
  refine wp_region (show wpOps _ _ _ [0, 1, 2, 3, 4, 5, 6, 7, 8, 9, 10, 11, 12, 13, 14, 15, 16, 17, 18, 19, 20, 21, 22, 23, 24, 25, 26, 27, 28, 29, 30, 31, 32] _ _ from ?_)
  refine opsL 0 203 (v := .pointer (some ⟨b, 5, none⟩)) (by kernel_rfl) (by rw [hs]; decide) ?q265 ?q266
  case q265 => (intro o ho; obtain rfl := Option.some.inj ho; exact Or.inl ⟨rfl, k_field5 rfl (ev_tmp h1)⟩)
  case q266 =>
  intro a z h203 n e
  replace hs := z.trans hs
  replace hd := e.trans hd
  replace K := K.step z n (by decide)
  replace h1 := (n 1 (by decide)).trans h1
  clear z n e
  refine opsL 1 204 (v := .slice AD D.length cD) (by kernel_rfl) (by rw [hs]; decide) ?q267 ?q268
  case q267 => (intro o ho; obtain rfl := Option.some.inj ho; exact Or.inl ⟨rfl, k_loadL rfl (ev_tmp h203) e5⟩)
  case q268 =>
  intro a z h204 n e
  replace hs := z.trans hs
  replace hd := e.trans hd
  replace K := K.step z n (by decide)
  replace h1 := (n 1 (by decide)).trans h1
  clear h203
  clear z n e
  refine opsL 2 205 (v := .int .i64 D.length) (by kernel_rfl) (by rw [hs]; decide) ?q269 ?q270
  case q269 => (intro o ho; obtain rfl := Option.some.inj ho; exact Or.inl ⟨rfl, k_lenL rfl (ev_tmp h204)⟩)
  case q270 =>
  intro a z h205 n e
  replace hs := z.trans hs
  replace hd := e.trans hd
  replace K := K.step z n (by decide)
  replace h1 := (n 1 (by decide)).trans h1
  clear h204
  clear z n e
  refine opsL 3 206 (v := .bool true) (by kernel_rfl) (by rw [hs]; decide) ?q271 ?q272
  case q271 => (intro o ho; obtain rfl := Option.some.inj ho; exact Or.inl ⟨rfl, k_gt rfl (ev_tmp h205) rfl gD⟩)
  case q272 =>
  intro a z h206 n e
  replace hs := z.trans hs
  replace hd := e.trans hd
  replace K := K.step z n (by decide)
  replace h1 := (n 1 (by decide)).trans h1
  clear h205
  clear z n e
  refine opsL 4 207 (v := .bool true) (by kernel_rfl) (by rw [hs]; decide) ?q273 ?q274
  case q273 => (intro o ho; obtain rfl := Option.some.inj ho; exact Or.inl ⟨rfl, k_move rfl (ev_tmp h206)⟩)
  case q274 =>
  intro a z h207 n e
  replace hs := z.trans hs
  replace hd := e.trans hd
  replace K := K.step z n (by decide)
  replace h1 := (n 1 (by decide)).trans h1
  clear h206
  clear z n e
  refine opsL 5 208 (v := .pointer (some ⟨b, 0, none⟩)) (by kernel_rfl) (by rw [hs]; decide) ?q275 ?q276
  case q275 => (intro o ho; obtain rfl := Option.some.inj ho; exact Or.inl ⟨wanted_at (b := true) (want := true) rfl (by kernel_rfl) h207, k_field0 rfl (ev_tmp h1)⟩)
  case q276 =>
  intro a z h208 n e
  replace hs := z.trans hs
  replace hd := e.trans hd
  replace K := K.step z n (by decide)
  replace h1 := (n 1 (by decide)).trans h1
  replace h207 := (n 207 (by decide)).trans h207
  clear z n e
  refine opsL 6 209 (v := .int .i64 f) (by kernel_rfl) (by rw [hs]; decide) ?q277 ?q278
  case q277 => (intro o ho; obtain rfl := Option.some.inj ho; exact Or.inl ⟨wanted_at (b := true) (want := true) rfl (by kernel_rfl) h207, k_loadF rfl (ev_tmp h208) e0⟩)
  case q278 =>
  intro a z h209 n e
  replace hs := z.trans hs
  replace hd := e.trans hd
  replace K := K.step z n (by decide)
  replace h1 := (n 1 (by decide)).trans h1
  replace h207 := (n 207 (by decide)).trans h207
  clear h208
  clear z n e
  refine opsL 7 210 (v := .bool false) (by kernel_rfl) (by rw [hs]; decide) ?q279 ?q280
  case q279 => (intro o ho; obtain rfl := Option.some.inj ho; exact Or.inl ⟨wanted_at (b := true) (want := true) rfl (by kernel_rfl) h207, k_eqF rfl (ev_tmp h209) rfl hf⟩)
  case q280 =>
  intro a z h210 n e
  replace hs := z.trans hs
  replace hd := e.trans hd
  replace K := K.step z n (by decide)
  replace h1 := (n 1 (by decide)).trans h1
  replace h207 := (n 207 (by decide)).trans h207
  clear h209
  clear z n e
  refine opsL 8 211 (v := .bool false) (by kernel_rfl) (by rw [hs]; decide) ?q281 ?q282
  case q281 => (intro o ho; obtain rfl := Option.some.inj ho; exact Or.inl ⟨rfl, k_pick_yes rfl (ev_tmp h207) (ev_tmp h210)⟩)
  case q282 =>
  intro a z h211 n e
  replace hs := z.trans hs
  replace hd := e.trans hd
  replace K := K.step z n (by decide)
  replace h1 := (n 1 (by decide)).trans h1
  clear h207
  clear h210
  clear z n e
  refine opsL 9 212 (v := .bool false) (by kernel_rfl) (by rw [hs]; decide) ?q283 ?q284
  case q283 => (intro o ho; obtain rfl := Option.some.inj ho; exact Or.inl ⟨rfl, k_move rfl (ev_tmp h211)⟩)
  case q284 =>
  intro a z h212 n e
  replace hs := z.trans hs
  replace hd := e.trans hd
  replace K := K.step z n (by decide)
  replace h1 := (n 1 (by decide)).trans h1
  clear h211
  clear z n e
  refine opsL 10 213 (v := .pointer (some ⟨b, 7, none⟩)) (by kernel_rfl) (by rw [hs]; decide) ?q285 ?q286
  case q285 => (intro o ho; obtain rfl := Option.some.inj ho; exact Or.inl ⟨wanted_at (b := false) (want := false) rfl (by kernel_rfl) h212, k_field7 rfl (ev_tmp h1)⟩)
  case q286 =>
  intro a z h213 n e
  replace hs := z.trans hs
  replace hd := e.trans hd
  replace K := K.step z n (by decide)
  replace h1 := (n 1 (by decide)).trans h1
  replace h212 := (n 212 (by decide)).trans h212
  clear z n e
  refine opsL 11 214 (v := .slice AP P.length cP) (by kernel_rfl) (by rw [hs]; decide) ?q287 ?q288
  case q287 => (intro o ho; obtain rfl := Option.some.inj ho; exact Or.inl ⟨wanted_at (b := false) (want := false) rfl (by kernel_rfl) h212, k_loadL rfl (ev_tmp h213) e7⟩)
  case q288 =>
  intro a z h214 n e
  replace hs := z.trans hs
  replace hd := e.trans hd
  replace K := K.step z n (by decide)
  replace h1 := (n 1 (by decide)).trans h1
  replace h212 := (n 212 (by decide)).trans h212
  clear h213
  clear z n e
  refine opsL 12 215 (v := .int .i64 P.length) (by kernel_rfl) (by rw [hs]; decide) ?q289 ?q290
  case q289 => (intro o ho; obtain rfl := Option.some.inj ho; exact Or.inl ⟨wanted_at (b := false) (want := false) rfl (by kernel_rfl) h212, k_lenL rfl (ev_tmp h214)⟩)
  case q290 =>
  intro a z h215 n e
  replace hs := z.trans hs
  replace hd := e.trans hd
  replace K := K.step z n (by decide)
  replace h1 := (n 1 (by decide)).trans h1
  replace h212 := (n 212 (by decide)).trans h212
  clear h214
  clear z n e
  refine opsL 13 216 (v := .bool true) (by kernel_rfl) (by rw [hs]; decide) ?q291 ?q292
  case q291 => (intro o ho; obtain rfl := Option.some.inj ho; exact Or.inl ⟨wanted_at (b := false) (want := false) rfl (by kernel_rfl) h212, k_gt rfl (ev_tmp h215) rfl gP⟩)
  case q292 =>
  intro a z h216 n e
  replace hs := z.trans hs
  replace hd := e.trans hd
  replace K := K.step z n (by decide)
  replace h1 := (n 1 (by decide)).trans h1
  replace h212 := (n 212 (by decide)).trans h212
  clear h215
  clear z n e
  refine opsL 14 217 (v := .bool true) (by kernel_rfl) (by rw [hs]; decide) ?q293 ?q294
  case q293 => (intro o ho; obtain rfl := Option.some.inj ho; exact Or.inl ⟨wanted_at (b := false) (want := false) rfl (by kernel_rfl) h212, k_move rfl (ev_tmp h216)⟩)
  case q294 =>
  intro a z h217 n e
  replace hs := z.trans hs
  replace hd := e.trans hd
  replace K := K.step z n (by decide)
  replace h1 := (n 1 (by decide)).trans h1
  replace h212 := (n 212 (by decide)).trans h212
  clear h216
  clear z n e
  refine opsL 15 218 (v := .pointer (some ⟨b, 4, none⟩)) (by kernel_rfl) (by rw [hs]; decide) ?q295 ?q296
  case q295 => (intro o ho; obtain rfl := Option.some.inj ho; exact Or.inl ⟨wanted_at (b := true) (want := true) rfl (by kernel_rfl) h217, k_field4 rfl (ev_tmp h1)⟩)
  case q296 =>
  intro a z h218 n e
  replace hs := z.trans hs
  replace hd := e.trans hd
  replace K := K.step z n (by decide)
  replace h1 := (n 1 (by decide)).trans h1
  replace h212 := (n 212 (by decide)).trans h212
  replace h217 := (n 217 (by decide)).trans h217
  clear z n e
  refine opsL 16 219 (v := .slice AM M.length cM) (by kernel_rfl) (by rw [hs]; decide) ?q297 ?q298
  case q297 => (intro o ho; obtain rfl := Option.some.inj ho; exact Or.inl ⟨wanted_at (b := true) (want := true) rfl (by kernel_rfl) h217, k_loadL rfl (ev_tmp h218) e4⟩)
  case q298 =>
  intro a z h219 n e
  replace hs := z.trans hs
  replace hd := e.trans hd
  replace K := K.step z n (by decide)
  replace h1 := (n 1 (by decide)).trans h1
  replace h212 := (n 212 (by decide)).trans h212
  replace h217 := (n 217 (by decide)).trans h217
  clear h218
  clear z n e
  refine opsL 17 220 (v := .int .i64 M.length) (by kernel_rfl) (by rw [hs]; decide) ?q299 ?q300
  case q299 => (intro o ho; obtain rfl := Option.some.inj ho; exact Or.inl ⟨wanted_at (b := true) (want := true) rfl (by kernel_rfl) h217, k_lenL rfl (ev_tmp h219)⟩)
  case q300 =>
  intro a z h220 n e
  replace hs := z.trans hs
  replace hd := e.trans hd
  replace K := K.step z n (by decide)
  replace h1 := (n 1 (by decide)).trans h1
  replace h212 := (n 212 (by decide)).trans h212
  replace h217 := (n 217 (by decide)).trans h217
  clear h219
  clear z n e
  refine opsL 18 221 (v := .bool false) (by kernel_rfl) (by rw [hs]; decide) ?q301 ?q302
  case q301 => (intro o ho; obtain rfl := Option.some.inj ho; exact Or.inl ⟨wanted_at (b := true) (want := true) rfl (by kernel_rfl) h217, k_eq rfl (ev_tmp h220) rfl zM⟩)
  case q302 =>
  intro a z h221 n e
  replace hs := z.trans hs
  replace hd := e.trans hd
  replace K := K.step z n (by decide)
  replace h1 := (n 1 (by decide)).trans h1
  replace h212 := (n 212 (by decide)).trans h212
  replace h217 := (n 217 (by decide)).trans h217
  clear h220
  clear z n e
  refine opsL 19 222 (v := .bool false) (by kernel_rfl) (by rw [hs]; decide) ?q303 ?q304
  case q303 => (intro o ho; obtain rfl := Option.some.inj ho; exact Or.inl ⟨wanted_at (b := false) (want := false) rfl (by kernel_rfl) h212, k_pick_yes rfl (ev_tmp h217) (ev_tmp h221)⟩)
  case q304 =>
  intro a z h222 n e
  replace hs := z.trans hs
  replace hd := e.trans hd
  replace K := K.step z n (by decide)
  replace h1 := (n 1 (by decide)).trans h1
  replace h212 := (n 212 (by decide)).trans h212
  clear h217
  clear h221
  clear z n e
  refine opsL 20 223 (v := .bool false) (by kernel_rfl) (by rw [hs]; decide) ?q305 ?q306
  case q305 => (intro o ho; obtain rfl := Option.some.inj ho; exact Or.inl ⟨wanted_at (b := false) (want := false) rfl (by kernel_rfl) h212, k_move rfl (ev_tmp h222)⟩)
  case q306 =>
  intro a z h223 n e
  replace hs := z.trans hs
  replace hd := e.trans hd
  replace K := K.step z n (by decide)
  replace h1 := (n 1 (by decide)).trans h1
  replace h212 := (n 212 (by decide)).trans h212
  clear h222
  clear z n e
  refine opsL 21 224 (v := undef) (by kernel_rfl) (by rw [hs]; decide) ?q307 ?q308
  case q307 => (intro o ho; obtain rfl := Option.some.inj ho; exact Or.inr ⟨wanted_at (b := false) (want := true) rfl (by kernel_rfl) h223, rfl⟩)
  case q308 =>
  intro a z h224 n e
  replace hs := z.trans hs
  replace hd := e.trans hd
  replace K := K.step z n (by decide)
  replace h1 := (n 1 (by decide)).trans h1
  replace h212 := (n 212 (by decide)).trans h212
  replace h223 := (n 223 (by decide)).trans h223
  clear z n e
  refine opsL 22 225 (v := undef) (by kernel_rfl) (by rw [hs]; decide) ?q309 ?q310
  case q309 => (intro o ho; obtain rfl := Option.some.inj ho; exact Or.inr ⟨wanted_at (b := false) (want := true) rfl (by kernel_rfl) h223, rfl⟩)
  case q310 =>
  intro a z h225 n e
  replace hs := z.trans hs
  replace hd := e.trans hd
  replace K := K.step z n (by decide)
  replace h1 := (n 1 (by decide)).trans h1
  replace h212 := (n 212 (by decide)).trans h212
  replace h223 := (n 223 (by decide)).trans h223
  clear h224
  clear z n e
  refine opsL 23 226 (v := undef) (by kernel_rfl) (by rw [hs]; decide) ?q311 ?q312
  case q311 => (intro o ho; obtain rfl := Option.some.inj ho; exact Or.inr ⟨wanted_at (b := false) (want := true) rfl (by kernel_rfl) h223, rfl⟩)
  case q312 =>
  intro a z h226 n e
  replace hs := z.trans hs
  replace hd := e.trans hd
  replace K := K.step z n (by decide)
  replace h1 := (n 1 (by decide)).trans h1
  replace h212 := (n 212 (by decide)).trans h212
  replace h223 := (n 223 (by decide)).trans h223
  clear h225
  clear z n e
  refine opsL 24 227 (v := undef) (by kernel_rfl) (by rw [hs]; decide) ?q313 ?q314
  case q313 => (intro o ho; obtain rfl := Option.some.inj ho; exact Or.inr ⟨wanted_at (b := false) (want := true) rfl (by kernel_rfl) h223, rfl⟩)
  case q314 =>
  intro a z h227 n e
  replace hs := z.trans hs
  replace hd := e.trans hd
  replace K := K.step z n (by decide)
  replace h1 := (n 1 (by decide)).trans h1
  replace h212 := (n 212 (by decide)).trans h212
  replace h223 := (n 223 (by decide)).trans h223
  clear h226
  clear z n e
  refine opsL 25 228 (v := .bool false) (by kernel_rfl) (by rw [hs]; decide) ?q315 ?q316
  case q315 => (intro o ho; obtain rfl := Option.some.inj ho; exact Or.inl ⟨wanted_at (b := false) (want := false) rfl (by kernel_rfl) h212, k_pick_no rfl (ev_tmp h223) rfl⟩)
  case q316 =>
  intro a z h228 n e
  replace hs := z.trans hs
  replace hd := e.trans hd
  replace K := K.step z n (by decide)
  replace h1 := (n 1 (by decide)).trans h1
  replace h212 := (n 212 (by decide)).trans h212
  clear h223
  clear h227
  clear z n e
  refine opsL 26 229 (v := .bool false) (by kernel_rfl) (by rw [hs]; decide) ?q317 ?q318
  case q317 => (intro o ho; obtain rfl := Option.some.inj ho; exact Or.inl ⟨wanted_at (b := false) (want := false) rfl (by kernel_rfl) h212, k_move rfl (ev_tmp h228)⟩)
  case q318 =>
  intro a z h229 n e
  replace hs := z.trans hs
  replace hd := e.trans hd
  replace K := K.step z n (by decide)
  replace h1 := (n 1 (by decide)).trans h1
  replace h212 := (n 212 (by decide)).trans h212
  clear h228
  clear z n e
  refine opsL 27 230 (v := undef) (by kernel_rfl) (by rw [hs]; decide) ?q319 ?q320
  case q319 => (intro o ho; obtain rfl := Option.some.inj ho; exact Or.inr ⟨wanted_at (b := false) (want := true) rfl (by kernel_rfl) h229, rfl⟩)
  case q320 =>
  intro a z h230 n e
  replace hs := z.trans hs
  replace hd := e.trans hd
  replace K := K.step z n (by decide)
  replace h1 := (n 1 (by decide)).trans h1
  replace h212 := (n 212 (by decide)).trans h212
  replace h229 := (n 229 (by decide)).trans h229
  clear z n e
  refine opsL 28 231 (v := undef) (by kernel_rfl) (by rw [hs]; decide) ?q321 ?q322
  case q321 => (intro o ho; obtain rfl := Option.some.inj ho; exact Or.inr ⟨wanted_at (b := false) (want := true) rfl (by kernel_rfl) h229, rfl⟩)
  case q322 =>
  intro a z h231 n e
  replace hs := z.trans hs
  replace hd := e.trans hd
  replace K := K.step z n (by decide)
  replace h1 := (n 1 (by decide)).trans h1
  replace h212 := (n 212 (by decide)).trans h212
  replace h229 := (n 229 (by decide)).trans h229
  clear h230
  clear z n e
  refine opsL 29 232 (v := undef) (by kernel_rfl) (by rw [hs]; decide) ?q323 ?q324
  case q323 => (intro o ho; obtain rfl := Option.some.inj ho; exact Or.inr ⟨wanted_at (b := false) (want := true) rfl (by kernel_rfl) h229, rfl⟩)
  case q324 =>
  intro a z h232 n e
  replace hs := z.trans hs
  replace hd := e.trans hd
  replace K := K.step z n (by decide)
  replace h1 := (n 1 (by decide)).trans h1
  replace h212 := (n 212 (by decide)).trans h212
  replace h229 := (n 229 (by decide)).trans h229
  clear h231
  clear z n e
  refine opsL 30 233 (v := undef) (by kernel_rfl) (by rw [hs]; decide) ?q325 ?q326
  case q325 => (intro o ho; obtain rfl := Option.some.inj ho; exact Or.inr ⟨wanted_at (b := false) (want := true) rfl (by kernel_rfl) h229, rfl⟩)
  case q326 =>
  intro a z h233 n e
  replace hs := z.trans hs
  replace hd := e.trans hd
  replace K := K.step z n (by decide)
  replace h1 := (n 1 (by decide)).trans h1
  replace h212 := (n 212 (by decide)).trans h212
  replace h229 := (n 229 (by decide)).trans h229
  clear h232
  clear z n e
  refine opsL 31 234 (v := .bool false) (by kernel_rfl) (by rw [hs]; decide) ?q327 ?q328
  case q327 => (intro o ho; obtain rfl := Option.some.inj ho; exact Or.inl ⟨wanted_at (b := false) (want := false) rfl (by kernel_rfl) h212, k_pick_no rfl (ev_tmp h229) rfl⟩)
  case q328 =>
  intro a z h234 n e
  replace hs := z.trans hs
  replace hd := e.trans hd
  replace K := K.step z n (by decide)
  replace h1 := (n 1 (by decide)).trans h1
  replace h212 := (n 212 (by decide)).trans h212
  clear h229
  clear h233
  clear z n e
  refine opsL 32 235 (v := .bool false) (by kernel_rfl) (by rw [hs]; decide) ?q329 ?q330
  case q329 => (intro o ho; obtain rfl := Option.some.inj ho; exact Or.inl ⟨rfl, k_pick_no rfl (ev_tmp h212) (ev_tmp h234)⟩)
  case q330 =>
  intro a z h235 n e
  replace hs := z.trans hs
  replace hd := e.trans hd
  replace K := K.step z n (by decide)
  replace h1 := (n 1 (by decide)).trans h1
  clear h212
  clear h234
  clear z n e
  exact hR _ K hd h235

set_option maxRecDepth 100000 in
set_option maxHeartbeats 1000000 in
theorem reg32_dp0 (a0 : Act) (w : World) (Q : Exit → Act → World → Prop) (b : Nat) (f : Int) (AM AD AW AP : Option Addr) (cM cD cW cP : Nat) (M D : List Int) (W : List (Int × Int)) (P : List Int) (hs0 : a0.tmps.size = 236) (h1 : a0.tmps.getD 1 undef = .pointer (some ⟨b, 0, none⟩))
    (e0 : w.cell? ⟨b, 0, none⟩ = some (.int .i64 f)) (e4 : w.cell? ⟨b, 4, none⟩ = some (.slice AM M.length cM)) (e5 : w.cell? ⟨b, 5, none⟩ = some (.slice AD D.length cD)) (_e6 : w.cell? ⟨b, 6, none⟩ = some (.slice AW W.length cW)) (e7 : w.cell? ⟨b, 7, none⟩ = some (.slice AP P.length cP))
    (gD : decide ((0 : Int) < D.length) = true) (hf : (f == 1) = false) (gP : decide ((0 : Int) < P.length) = true) (zM : ((M.length : Int) == 0) = true) (zD : ((D.length : Int) == 0) = false)
    (hR : ∀ a' : Act, Keep 203 235 235 a0.tmps a'.tmps → a'.defers = a0.defers → a'.tmps.getD 235 undef = .bool false → Q .normal a' w) :
    (Code.region 32 ops32 false).wp Tryd.prog Q a0 w := by
  have hs := hs0
  have K := Keep.refl 203 235 235 a0.tmps
  have hd : a0.defers = a0.defers := rfl
  conv => arg 2; arg 2; whnf
  refine wp_region (show wpOps _ _ _ [0, 1, 2, 3, 4, 5, 6, 7, 8, 9, 10, 11, 12, 13, 14, 15, 16, 17, 18, 19, 20, 21, 22, 23, 24, 25, 26, 27, 28, 29, 30, 31, 32] _ _ from ?_)
  refine opsL 0 203 (v := .pointer (some ⟨b, 5, none⟩)) (by kernel_rfl) (by rw [hs]; decide) ?q331 ?q332
  case q331 => (intro o ho; obtain rfl := Option.some.inj ho; exact Or.inl ⟨rfl, k_field5 rfl (ev_tmp h1)⟩)
  case q332 =>
  intro a z h203 n e
  replace hs := z.trans hs
  replace hd := e.trans hd
  replace K := K.step z n (by decide)
  replace h1 := (n 1 (by decide)).trans h1
  clear z n e
  refine opsL 1 204 (v := .slice AD D.length cD) (by kernel_rfl) (by rw [hs]; decide) ?q333 ?q334
  case q333 => (intro o ho; obtain rfl := Option.some.inj ho; exact Or.inl ⟨rfl, k_loadL rfl (ev_tmp h203) e5⟩)
  case q334 =>
  intro a z h204 n e
  replace hs := z.trans hs
  replace hd := e.trans hd
  replace K := K.step z n (by decide)
  replace h1 := (n 1 (by decide)).trans h1
  clear h203
  clear z n e
  refine opsL 2 205 (v := .int .i64 D.length) (by kernel_rfl) (by rw [hs]; decide) ?q335 ?q336
  case q335 => (intro o ho; obtain rfl := Option.some.inj ho; exact Or.inl ⟨rfl, k_lenL rfl (ev_tmp h204)⟩)
  case q336 =>
  intro a z h205 n e
  replace hs := z.trans hs
  replace hd := e.trans hd
  replace K := K.step z n (by decide)
  replace h1 := (n 1 (by decide)).trans h1
  clear h204
  clear z n e
  refine opsL 3 206 (v := .bool true) (by kernel_rfl) (by rw [hs]; decide) ?q337 ?q338
  case q337 => (intro o ho; obtain rfl := Option.some.inj ho; exact Or.inl ⟨rfl, k_gt rfl (ev_tmp h205) rfl gD⟩)
  case q338 =>
  intro a z h206 n e
  replace hs := z.trans hs
  replace hd := e.trans hd
  replace K := K.step z n (by decide)
  replace h1 := (n 1 (by decide)).trans h1
  clear h205
  clear z n e
  refine opsL 4 207 (v := .bool true) (by kernel_rfl) (by rw [hs]; decide) ?q339 ?q340
  case q339 => (intro o ho; obtain rfl := Option.some.inj ho; exact Or.inl ⟨rfl, k_move rfl (ev_tmp h206)⟩)
  case q340 =>
  intro a z h207 n e
  replace hs := z.trans hs
  replace hd := e.trans hd
  replace K := K.step z n (by decide)
  replace h1 := (n 1 (by decide)).trans h1
  clear h206
  clear z n e
  refine opsL 5 208 (v := .pointer (some ⟨b, 0, none⟩)) (by kernel_rfl) (by rw [hs]; decide) ?q341 ?q342
  case q341 => (intro o ho; obtain rfl := Option.some.inj ho; exact Or.inl ⟨wanted_at (b := true) (want := true) rfl (by kernel_rfl) h207, k_field0 rfl (ev_tmp h1)⟩)
  case q342 =>
  intro a z h208 n e
  replace hs := z.trans hs
  replace hd := e.trans hd
  replace K := K.step z n (by decide)
  replace h1 := (n 1 (by decide)).trans h1
  replace h207 := (n 207 (by decide)).trans h207
  clear z n e
  refine opsL 6 209 (v := .int .i64 f) (by kernel_rfl) (by rw [hs]; decide) ?q343 ?q344
  case q343 => (intro o ho; obtain rfl := Option.some.inj ho; exact Or.inl ⟨wanted_at (b := true) (want := true) rfl (by kernel_rfl) h207, k_loadF rfl (ev_tmp h208) e0⟩)
  case q344 =>
  intro a z h209 n e
  replace hs := z.trans hs
  replace hd := e.trans hd
  replace K := K.step z n (by decide)
  replace h1 := (n 1 (by decide)).trans h1
  replace h207 := (n 207 (by decide)).trans h207
  clear h208
  clear z n e
  refine opsL 7 210 (v := .bool false) (by kernel_rfl) (by rw [hs]; decide) ?q345 ?q346
  case q345 => (intro o ho; obtain rfl := Option.some.inj ho; exact Or.inl ⟨wanted_at (b := true) (want := true) rfl (by kernel_rfl) h207, k_eqF rfl (ev_tmp h209) rfl hf⟩)
  case q346 =>
  intro a z h210 n e
  replace hs := z.trans hs
  replace hd := e.trans hd
  replace K := K.step z n (by decide)
  replace h1 := (n 1 (by decide)).trans h1
  replace h207 := (n 207 (by decide)).trans h207
  clear h209
  clear z n e
  refine opsL 8 211 (v := .bool false) (by kernel_rfl) (by rw [hs]; decide) ?q347 ?q348
  case q347 => (intro o ho; obtain rfl := Option.some.inj ho; exact Or.inl ⟨rfl, k_pick_yes rfl (ev_tmp h207) (ev_tmp h210)⟩)
  case q348 =>
  intro a z h211 n e
  replace hs := z.trans hs
  replace hd := e.trans hd
  replace K := K.step z n (by decide)
  replace h1 := (n 1 (by decide)).trans h1
  clear h207
  clear h210
  clear z n e
  refine opsL 9 212 (v := .bool false) (by kernel_rfl) (by rw [hs]; decide) ?q349 ?q350
  case q349 => (intro o ho; obtain rfl := Option.some.inj ho; exact Or.inl ⟨rfl, k_move rfl (ev_tmp h211)⟩)
  case q350 =>
  intro a z h212 n e
  replace hs := z.trans hs
  replace hd := e.trans hd
  replace K := K.step z n (by decide)
  replace h1 := (n 1 (by decide)).trans h1
  clear h211
  clear z n e
  refine opsL 10 213 (v := .pointer (some ⟨b, 7, none⟩)) (by kernel_rfl) (by rw [hs]; decide) ?q351 ?q352
  case q351 => (intro o ho; obtain rfl := Option.some.inj ho; exact Or.inl ⟨wanted_at (b := false) (want := false) rfl (by kernel_rfl) h212, k_field7 rfl (ev_tmp h1)⟩)
  case q352 =>
  intro a z h213 n e
  replace hs := z.trans hs
  replace hd := e.trans hd
  replace K := K.step z n (by decide)
  replace h1 := (n 1 (by decide)).trans h1
  replace h212 := (n 212 (by decide)).trans h212
  clear z n e
  refine opsL 11 214 (v := .slice AP P.length cP) (by kernel_rfl) (by rw [hs]; decide) ?q353 ?q354
  case q353 => (intro o ho; obtain rfl := Option.some.inj ho; exact Or.inl ⟨wanted_at (b := false) (want := false) rfl (by kernel_rfl) h212, k_loadL rfl (ev_tmp h213) e7⟩)
  case q354 =>
  intro a z h214 n e
  replace hs := z.trans hs
  replace hd := e.trans hd
  replace K := K.step z n (by decide)
  replace h1 := (n 1 (by decide)).trans h1
  replace h212 := (n 212 (by decide)).trans h212
  clear h213
  clear z n e
  refine opsL 12 215 (v := .int .i64 P.length) (by kernel_rfl) (by rw [hs]; decide) ?q355 ?q356
  case q355 => (intro o ho; obtain rfl := Option.some.inj ho; exact Or.inl ⟨wanted_at (b := false) (want := false) rfl (by kernel_rfl) h212, k_lenL rfl (ev_tmp h214)⟩)
  case q356 =>
  intro a z h215 n e
  replace hs := z.trans hs
  replace hd := e.trans hd
  replace K := K.step z n (by decide)
  replace h1 := (n 1 (by decide)).trans h1
  replace h212 := (n 212 (by decide)).trans h212
  clear h214
  clear z n e
  refine opsL 13 216 (v := .bool true) (by kernel_rfl) (by rw [hs]; decide) ?q357 ?q358
  case q357 => (intro o ho; obtain rfl := Option.some.inj ho; exact Or.inl ⟨wanted_at (b := false) (want := false) rfl (by kernel_rfl) h212, k_gt rfl (ev_tmp h215) rfl gP⟩)
  case q358 =>
  intro a z h216 n e
  replace hs := z.trans hs
  replace hd := e.trans hd
  replace K := K.step z n (by decide)
  replace h1 := (n 1 (by decide)).trans h1
  replace h212 := (n 212 (by decide)).trans h212
  clear h215
  clear z n e
  refine opsL 14 217 (v := .bool true) (by kernel_rfl) (by rw [hs]; decide) ?q359 ?q360
  case q359 => (intro o ho; obtain rfl := Option.some.inj ho; exact Or.inl ⟨wanted_at (b := false) (want := false) rfl (by kernel_rfl) h212, k_move rfl (ev_tmp h216)⟩)
  case q360 =>
  intro a z h217 n e
  replace hs := z.trans hs
  replace hd := e.trans hd
  replace K := K.step z n (by decide)
  replace h1 := (n 1 (by decide)).trans h1
  replace h212 := (n 212 (by decide)).trans h212
  clear h216
  clear z n e
  refine opsL 15 218 (v := .pointer (some ⟨b, 4, none⟩)) (by kernel_rfl) (by rw [hs]; decide) ?q361 ?q362
  case q361 => (intro o ho; obtain rfl := Option.some.inj ho; exact Or.inl ⟨wanted_at (b := true) (want := true) rfl (by kernel_rfl) h217, k_field4 rfl (ev_tmp h1)⟩)
  case q362 =>
  intro a z h218 n e
  replace hs := z.trans hs
  replace hd := e.trans hd
  replace K := K.step z n (by decide)
  replace h1 := (n 1 (by decide)).trans h1
  replace h212 := (n 212 (by decide)).trans h212
  replace h217 := (n 217 (by decide)).trans h217
  clear z n e
  refine opsL 16 219 (v := .slice AM M.length cM) (by kernel_rfl) (by rw [hs]; decide) ?q363 ?q364
  case q363 => (intro o ho; obtain rfl := Option.some.inj ho; exact Or.inl ⟨wanted_at (b := true) (want := true) rfl (by kernel_rfl) h217, k_loadL rfl (ev_tmp h218) e4⟩)
  case q364 =>
  intro a z h219 n e
  replace hs := z.trans hs
  replace hd := e.trans hd
  replace K := K.step z n (by decide)
  replace h1 := (n 1 (by decide)).trans h1
  replace h212 := (n 212 (by decide)).trans h212
  replace h217 := (n 217 (by decide)).trans h217
  clear h218
  clear z n e
  refine opsL 17 220 (v := .int .i64 M.length) (by kernel_rfl) (by rw [hs]; decide) ?q365 ?q366
  case q365 => (intro o ho; obtain rfl := Option.some.inj ho; exact Or.inl ⟨wanted_at (b := true) (want := true) rfl (by kernel_rfl) h217, k_lenL rfl (ev_tmp h219)⟩)
  case q366 =>
  intro a z h220 n e
  replace hs := z.trans hs
  replace hd := e.trans hd
  replace K := K.step z n (by decide)
  replace h1 := (n 1 (by decide)).trans h1
  replace h212 := (n 212 (by decide)).trans h212
  replace h217 := (n 217 (by decide)).trans h217
  clear h219
  clear z n e
  refine opsL 18 221 (v := .bool true) (by kernel_rfl) (by rw [hs]; decide) ?q367 ?q368
  case q367 => (intro o ho; obtain rfl := Option.some.inj ho; exact Or.inl ⟨wanted_at (b := true) (want := true) rfl (by kernel_rfl) h217, k_eq rfl (ev_tmp h220) rfl zM⟩)
  case q368 =>
  intro a z h221 n e
  replace hs := z.trans hs
  replace hd := e.trans hd
  replace K := K.step z n (by decide)
  replace h1 := (n 1 (by decide)).trans h1
  replace h212 := (n 212 (by decide)).trans h212
  replace h217 := (n 217 (by decide)).trans h217
  clear h220
  clear z n e
  refine opsL 19 222 (v := .bool true) (by kernel_rfl) (by rw [hs]; decide) ?q369 ?q370
  case q369 => (intro o ho; obtain rfl := Option.some.inj ho; exact Or.inl ⟨wanted_at (b := false) (want := false) rfl (by kernel_rfl) h212, k_pick_yes rfl (ev_tmp h217) (ev_tmp h221)⟩)
  case q370 =>
  intro a z h222 n e
  replace hs := z.trans hs
  replace hd := e.trans hd
  replace K := K.step z n (by decide)
  replace h1 := (n 1 (by decide)).trans h1
  replace h212 := (n 212 (by decide)).trans h212
  clear h217
  clear h221
  clear z n e
  refine opsL 20 223 (v := .bool true) (by kernel_rfl) (by rw [hs]; decide) ?q371 ?q372
  case q371 => (intro o ho; obtain rfl := Option.some.inj ho; exact Or.inl ⟨wanted_at (b := false) (want := false) rfl (by kernel_rfl) h212, k_move rfl (ev_tmp h222)⟩)
  case q372 =>
  intro a z h223 n e
  replace hs := z.trans hs
  replace hd := e.trans hd
  replace K := K.step z n (by decide)
  replace h1 := (n 1 (by decide)).trans h1
  replace h212 := (n 212 (by decide)).trans h212
  clear h222
  clear z n e
  refine opsL 21 224 (v := .pointer (some ⟨b, 5, none⟩)) (by kernel_rfl) (by rw [hs]; decide) ?q373 ?q374
  case q373 => (intro o ho; obtain rfl := Option.some.inj ho; exact Or.inl ⟨wanted_at (b := true) (want := true) rfl (by kernel_rfl) h223, k_field5 rfl (ev_tmp h1)⟩)
  case q374 =>
  intro a z h224 n e
  replace hs := z.trans hs
  replace hd := e.trans hd
  replace K := K.step z n (by decide)
  replace h1 := (n 1 (by decide)).trans h1
  replace h212 := (n 212 (by decide)).trans h212
  replace h223 := (n 223 (by decide)).trans h223
  clear z n e
  refine opsL 22 225 (v := .slice AD D.length cD) (by kernel_rfl) (by rw [hs]; decide) ?q375 ?q376
  case q375 => (intro o ho; obtain rfl := Option.some.inj ho; exact Or.inl ⟨wanted_at (b := true) (want := true) rfl (by kernel_rfl) h223, k_loadL rfl (ev_tmp h224) e5⟩)
  case q376 =>
  intro a z h225 n e
  replace hs := z.trans hs
  replace hd := e.trans hd
  replace K := K.step z n (by decide)
  replace h1 := (n 1 (by decide)).trans h1
  replace h212 := (n 212 (by decide)).trans h212
  replace h223 := (n 223 (by decide)).trans h223
  clear h224
  clear z n e
  refine opsL 23 226 (v := .int .i64 D.length) (by kernel_rfl) (by rw [hs]; decide) ?q377 ?q378
  case q377 => (intro o ho; obtain rfl := Option.some.inj ho; exact Or.inl ⟨wanted_at (b := true) (want := true) rfl (by kernel_rfl) h223, k_lenL rfl (ev_tmp h225)⟩)
  case q378 =>
  intro a z h226 n e
  replace hs := z.trans hs
  replace hd := e.trans hd
  replace K := K.step z n (by decide)
  replace h1 := (n 1 (by decide)).trans h1
  replace h212 := (n 212 (by decide)).trans h212
  replace h223 := (n 223 (by decide)).trans h223
  clear h225
  clear z n e
  refine opsL 24 227 (v := .bool false) (by kernel_rfl) (by rw [hs]; decide) ?q379 ?q380
  case q379 => (intro o ho; obtain rfl := Option.some.inj ho; exact Or.inl ⟨wanted_at (b := true) (want := true) rfl (by kernel_rfl) h223, k_eq rfl (ev_tmp h226) rfl zD⟩)
  case q380 =>
  intro a z h227 n e
  replace hs := z.trans hs
  replace hd := e.trans hd
  replace K := K.step z n (by decide)
  replace h1 := (n 1 (by decide)).trans h1
  replace h212 := (n 212 (by decide)).trans h212
  replace h223 := (n 223 (by decide)).trans h223
  clear h226
  clear z n e
  refine opsL 25 228 (v := .bool false) (by kernel_rfl) (by rw [hs]; decide) ?q381 ?q382
  case q381 => (intro o ho; obtain rfl := Option.some.inj ho; exact Or.inl ⟨wanted_at (b := false) (want := false) rfl (by kernel_rfl) h212, k_pick_yes rfl (ev_tmp h223) (ev_tmp h227)⟩)
  case q382 =>
  intro a z h228 n e
  replace hs := z.trans hs
  replace hd := e.trans hd
  replace K := K.step z n (by decide)
  replace h1 := (n 1 (by decide)).trans h1
  replace h212 := (n 212 (by decide)).trans h212
  clear h223
  clear h227
  clear z n e
  refine opsL 26 229 (v := .bool false) (by kernel_rfl) (by rw [hs]; decide) ?q383 ?q384
  case q383 => (intro o ho; obtain rfl := Option.some.inj ho; exact Or.inl ⟨wanted_at (b := false) (want := false) rfl (by kernel_rfl) h212, k_move rfl (ev_tmp h228)⟩)
  case q384 =>
  intro a z h229 n e
  replace hs := z.trans hs
  replace hd := e.trans hd
  replace K := K.step z n (by decide)
  replace h1 := (n 1 (by decide)).trans h1
  replace h212 := (n 212 (by decide)).trans h212
  clear h228
  clear z n e
  refine opsL 27 230 (v := undef) (by kernel_rfl) (by rw [hs]; decide) ?q385 ?q386
  case q385 => (intro o ho; obtain rfl := Option.some.inj ho; exact Or.inr ⟨wanted_at (b := false) (want := true) rfl (by kernel_rfl) h229, rfl⟩)
  case q386 =>
  intro a z h230 n e
  replace hs := z.trans hs
  replace hd := e.trans hd
  replace K := K.step z n (by decide)
  replace h1 := (n 1 (by decide)).trans h1
  replace h212 := (n 212 (by decide)).trans h212
  replace h229 := (n 229 (by decide)).trans h229
  clear z n e
  refine opsL 28 231 (v := undef) (by kernel_rfl) (by rw [hs]; decide) ?q387 ?q388
  case q387 => (intro o ho; obtain rfl := Option.some.inj ho; exact Or.inr ⟨wanted_at (b := false) (want := true) rfl (by kernel_rfl) h229, rfl⟩)
  case q388 =>
  intro a z h231 n e
  replace hs := z.trans hs
  replace hd := e.trans hd
  replace K := K.step z n (by decide)
  replace h1 := (n 1 (by decide)).trans h1
  replace h212 := (n 212 (by decide)).trans h212
  replace h229 := (n 229 (by decide)).trans h229
  clear h230
  clear z n e
  refine opsL 29 232 (v := undef) (by kernel_rfl) (by rw [hs]; decide) ?q389 ?q390
  case q389 => (intro o ho; obtain rfl := Option.some.inj ho; exact Or.inr ⟨wanted_at (b := false) (want := true) rfl (by kernel_rfl) h229, rfl⟩)
  case q390 =>
  intro a z h232 n e
  replace hs := z.trans hs
  replace hd := e.trans hd
  replace K := K.step z n (by decide)
  replace h1 := (n 1 (by decide)).trans h1
  replace h212 := (n 212 (by decide)).trans h212
  replace h229 := (n 229 (by decide)).trans h229
  clear h231
  clear z n e
  refine opsL 30 233 (v := undef) (by kernel_rfl) (by rw [hs]; decide) ?q391 ?q392
  case q391 => (intro o ho; obtain rfl := Option.some.inj ho; exact Or.inr ⟨wanted_at (b := false) (want := true) rfl (by kernel_rfl) h229, rfl⟩)
  case q392 =>
  intro a z h233 n e
  replace hs := z.trans hs
  replace hd := e.trans hd
  replace K := K.step z n (by decide)
  replace h1 := (n 1 (by decide)).trans h1
  replace h212 := (n 212 (by decide)).trans h212
  replace h229 := (n 229 (by decide)).trans h229
  clear h232
  clear z n e
  refine opsL 31 234 (v := .bool false) (by kernel_rfl) (by rw [hs]; decide) ?q393 ?q394
  case q393 => (intro o ho; obtain rfl := Option.some.inj ho; exact Or.inl ⟨wanted_at (b := false) (want := false) rfl (by kernel_rfl) h212, k_pick_no rfl (ev_tmp h229) rfl⟩)
  case q394 =>
  intro a z h234 n e
  replace hs := z.trans hs
  replace hd := e.trans hd
  replace K := K.step z n (by decide)
  replace h1 := (n 1 (by decide)).trans h1
  replace h212 := (n 212 (by decide)).trans h212
  clear h229
  clear h233
  clear z n e
  refine opsL 32 235 (v := .bool false) (by kernel_rfl) (by rw [hs]; decide) ?q395 ?q396
  case q395 => (intro o ho; obtain rfl := Option.some.inj ho; exact Or.inl ⟨rfl, k_pick_no rfl (ev_tmp h212) (ev_tmp h234)⟩)
  case q396 =>
  intro a z h235 n e
  replace hs := z.trans hs
  replace hd := e.trans hd
  replace K := K.step z n (by decide)
  replace h1 := (n 1 (by decide)).trans h1
  clear h212
  clear h234
  clear z n e
  exact hR _ K hd h235

set_option maxRecDepth 100000 in
set_option maxHeartbeats 1000000 in
theorem reg32_n (a0 : Act) (w : World) (Q : Exit → Act → World → Prop) (b : Nat) (f : Int) (AM AD AW AP : Option Addr) (cM cD cW cP : Nat) (M D : List Int) (W : List (Int × Int)) (P : List Int) (hs0 : a0.tmps.size = 236) (h1 : a0.tmps.getD 1 undef = .pointer (some ⟨b, 0, none⟩))
    (_e0 : w.cell? ⟨b, 0, none⟩ = some (.int .i64 f)) (_e4 : w.cell? ⟨b, 4, none⟩ = some (.slice AM M.length cM)) (e5 : w.cell? ⟨b, 5, none⟩ = some (.slice AD D.length cD)) (_e6 : w.cell? ⟨b, 6, none⟩ = some (.slice AW W.length cW)) (e7 : w.cell? ⟨b, 7, none⟩ = some (.slice AP P.length cP))
    (gD : decide ((0 : Int) < D.length) = false) (gP : decide ((0 : Int) < P.length) = false)
    (hR : ∀ a' : Act, Keep 203 235 235 a0.tmps a'.tmps → a'.defers = a0.defers → a'.tmps.getD 235 undef = .bool false → Q .normal a' w) :
    (Code.region 32 ops32 false).wp Tryd.prog Q a0 w := by
  have hs := hs0
  have K := Keep.refl 203 235 235 a0.tmps
  have hd : a0.defers = a0.defers := rfl
  conv => arg 2; arg 2; whnf
  refine wp_region (show wpOps _ _ _ [0, 1, 2, 3, 4, 5, 6, 7, 8, 9, 10, 11, 12, 13, 14, 15, 16, 17, 18, 19, 20, 21, 22, 23, 24, 25, 26, 27, 28, 29, 30, 31, 32] _ _ from ?_)
  refine opsL 0 203 (v := .pointer (some ⟨b, 5, none⟩)) (by kernel_rfl) (by rw [hs]; decide) ?q397 ?q398
  case q397 => (intro o ho; obtain rfl := Option.some.inj ho; exact Or.inl ⟨rfl, k_field5 rfl (ev_tmp h1)⟩)
  case q398 =>
  intro a z h203 n e
  replace hs := z.trans hs
  replace hd := e.trans hd
  replace K := K.step z n (by decide)
  replace h1 := (n 1 (by decide)).trans h1
  clear z n e
  refine opsL 1 204 (v := .slice AD D.length cD) (by kernel_rfl) (by rw [hs]; decide) ?q399 ?q400
  case q399 => (intro o ho; obtain rfl := Option.some.inj ho; exact Or.inl ⟨rfl, k_loadL rfl (ev_tmp h203) e5⟩)
  case q400 =>
  intro a z h204 n e
  replace hs := z.trans hs
  replace hd := e.trans hd
  replace K := K.step z n (by decide)
  replace h1 := (n 1 (by decide)).trans h1
  clear h203
  clear z n e
  refine opsL 2 205 (v := .int .i64 D.length) (by kernel_rfl) (by rw [hs]; decide) ?q401 ?q402
  case q401 => (intro o ho; obtain rfl := Option.some.inj ho; exact Or.inl ⟨rfl, k_lenL rfl (ev_tmp h204)⟩)
  case q402 =>
  intro a z h205 n e
  replace hs := z.trans hs
  replace hd := e.trans hd
  replace K := K.step z n (by decide)
  replace h1 := (n 1 (by decide)).trans h1
  clear h204
  clear z n e
  refine opsL 3 206 (v := .bool false) (by kernel_rfl) (by rw [hs]; decide) ?q403 ?q404
  case q403 => (intro o ho; obtain rfl := Option.some.inj ho; exact Or.inl ⟨rfl, k_gt rfl (ev_tmp h205) rfl gD⟩)
  case q404 =>
  intro a z h206 n e
  replace hs := z.trans hs
  replace hd := e.trans hd
  replace K := K.step z n (by decide)
  replace h1 := (n 1 (by decide)).trans h1
  clear h205
  clear z n e
  refine opsL 4 207 (v := .bool false) (by kernel_rfl) (by rw [hs]; decide) ?q405 ?q406
  case q405 => (intro o ho; obtain rfl := Option.some.inj ho; exact Or.inl ⟨rfl, k_move rfl (ev_tmp h206)⟩)
  case q406 =>
  intro a z h207 n e
  replace hs := z.trans hs
  replace hd := e.trans hd
  replace K := K.step z n (by decide)
  replace h1 := (n 1 (by decide)).trans h1
  clear h206
  clear z n e
  refine opsL 5 208 (v := undef) (by kernel_rfl) (by rw [hs]; decide) ?q407 ?q408
  case q407 => (intro o ho; obtain rfl := Option.some.inj ho; exact Or.inr ⟨wanted_at (b := false) (want := true) rfl (by kernel_rfl) h207, rfl⟩)
  case q408 =>
  intro a z h208 n e
  replace hs := z.trans hs
  replace hd := e.trans hd
  replace K := K.step z n (by decide)
  replace h1 := (n 1 (by decide)).trans h1
  replace h207 := (n 207 (by decide)).trans h207
  clear z n e
  refine opsL 6 209 (v := undef) (by kernel_rfl) (by rw [hs]; decide) ?q409 ?q410
  case q409 => (intro o ho; obtain rfl := Option.some.inj ho; exact Or.inr ⟨wanted_at (b := false) (want := true) rfl (by kernel_rfl) h207, rfl⟩)
  case q410 =>
  intro a z h209 n e
  replace hs := z.trans hs
  replace hd := e.trans hd
  replace K := K.step z n (by decide)
  replace h1 := (n 1 (by decide)).trans h1
  replace h207 := (n 207 (by decide)).trans h207
  clear h208
  clear z n e
  refine opsL 7 210 (v := undef) (by kernel_rfl) (by rw [hs]; decide) ?q411 ?q412
  case q411 => (intro o ho; obtain rfl := Option.some.inj ho; exact Or.inr ⟨wanted_at (b := false) (want := true) rfl (by kernel_rfl) h207, rfl⟩)
  case q412 =>
  intro a z h210 n e
  replace hs := z.trans hs
  replace hd := e.trans hd
  replace K := K.step z n (by decide)
  replace h1 := (n 1 (by decide)).trans h1
  replace h207 := (n 207 (by decide)).trans h207
  clear h209
  clear z n e
  refine opsL 8 211 (v := .bool false) (by kernel_rfl) (by rw [hs]; decide) ?q413 ?q414
  case q413 => (intro o ho; obtain rfl := Option.some.inj ho; exact Or.inl ⟨rfl, k_pick_no rfl (ev_tmp h207) rfl⟩)
  case q414 =>
  intro a z h211 n e
  replace hs := z.trans hs
  replace hd := e.trans hd
  replace K := K.step z n (by decide)
  replace h1 := (n 1 (by decide)).trans h1
  clear h207
  clear h210
  clear z n e
  refine opsL 9 212 (v := .bool false) (by kernel_rfl) (by rw [hs]; decide) ?q415 ?q416
  case q415 => (intro o ho; obtain rfl := Option.some.inj ho; exact Or.inl ⟨rfl, k_move rfl (ev_tmp h211)⟩)
  case q416 =>
  intro a z h212 n e
  replace hs := z.trans hs
  replace hd := e.trans hd
  replace K := K.step z n (by decide)
  replace h1 := (n 1 (by decide)).trans h1
  clear h211
  clear z n e
  refine opsL 10 213 (v := .pointer (some ⟨b, 7, none⟩)) (by kernel_rfl) (by rw [hs]; decide) ?q417 ?q418
  case q417 => (intro o ho; obtain rfl := Option.some.inj ho; exact Or.inl ⟨wanted_at (b := false) (want := false) rfl (by kernel_rfl) h212, k_field7 rfl (ev_tmp h1)⟩)
  case q418 =>
  intro a z h213 n e
  replace hs := z.trans hs
  replace hd := e.trans hd
  replace K := K.step z n (by decide)
  replace h1 := (n 1 (by decide)).trans h1
  replace h212 := (n 212 (by decide)).trans h212
  clear z n e
  refine opsL 11 214 (v := .slice AP P.length cP) (by kernel_rfl) (by rw [hs]; decide) ?q419 ?q420
  case q419 => (intro o ho; obtain rfl := Option.some.inj ho; exact Or.inl ⟨wanted_at (b := false) (want := false) rfl (by kernel_rfl) h212, k_loadL rfl (ev_tmp h213) e7⟩)
  case q420 =>
  intro a z h214 n e
  replace hs := z.trans hs
  replace hd := e.trans hd
  replace K := K.step z n (by decide)
  replace h1 := (n 1 (by decide)).trans h1
  replace h212 := (n 212 (by decide)).trans h212
  clear h213
  clear z n e
  refine opsL 12 215 (v := .int .i64 P.length) (by kernel_rfl) (by rw [hs]; decide) ?q421 ?q422
  case q421 => (intro o ho; obtain rfl := Option.some.inj ho; exact Or.inl ⟨wanted_at (b := false) (want := false) rfl (by kernel_rfl) h212, k_lenL rfl (ev_tmp h214)⟩)
  case q422 =>
  intro a z h215 n e
  replace hs := z.trans hs
  replace hd := e.trans hd
  replace K := K.step z n (by decide)
  replace h1 := (n 1 (by decide)).trans h1
  replace h212 := (n 212 (by decide)).trans h212
  clear h214
  clear z n e
  refine opsL 13 216 (v := .bool false) (by kernel_rfl) (by rw [hs]; decide) ?q423 ?q424
  case q423 => (intro o ho; obtain rfl := Option.some.inj ho; exact Or.inl ⟨wanted_at (b := false) (want := false) rfl (by kernel_rfl) h212, k_gt rfl (ev_tmp h215) rfl gP⟩)
  case q424 =>
  intro a z h216 n e
  replace hs := z.trans hs
  replace hd := e.trans hd
  replace K := K.step z n (by decide)
  replace h1 := (n 1 (by decide)).trans h1
  replace h212 := (n 212 (by decide)).trans h212
  clear h215
  clear z n e
  refine opsL 14 217 (v := .bool false) (by kernel_rfl) (by rw [hs]; decide) ?q425 ?q426
  case q425 => (intro o ho; obtain rfl := Option.some.inj ho; exact Or.inl ⟨wanted_at (b := false) (want := false) rfl (by kernel_rfl) h212, k_move rfl (ev_tmp h216)⟩)
  case q426 =>
  intro a z h217 n e
  replace hs := z.trans hs
  replace hd := e.trans hd
  replace K := K.step z n (by decide)
  replace h1 := (n 1 (by decide)).trans h1
  replace h212 := (n 212 (by decide)).trans h212
  clear h216
  clear z n e
  refine opsL 15 218 (v := undef) (by kernel_rfl) (by rw [hs]; decide) ?q427 ?q428
  case q427 => (intro o ho; obtain rfl := Option.some.inj ho; exact Or.inr ⟨wanted_at (b := false) (want := true) rfl (by kernel_rfl) h217, rfl⟩)
  case q428 =>
  intro a z h218 n e
  replace hs := z.trans hs
  replace hd := e.trans hd
  replace K := K.step z n (by decide)
  replace h1 := (n 1 (by decide)).trans h1
  replace h212 := (n 212 (by decide)).trans h212
  replace h217 := (n 217 (by decide)).trans h217
  clear z n e
  refine opsL 16 219 (v := undef) (by kernel_rfl) (by rw [hs]; decide) ?q429 ?q430
  case q429 => (intro o ho; obtain rfl := Option.some.inj ho; exact Or.inr ⟨wanted_at (b := false) (want := true) rfl (by kernel_rfl) h217, rfl⟩)
  case q430 =>
  intro a z h219 n e
  replace hs := z.trans hs
  replace hd := e.trans hd
  replace K := K.step z n (by decide)
  replace h1 := (n 1 (by decide)).trans h1
  replace h212 := (n 212 (by decide)).trans h212
  replace h217 := (n 217 (by decide)).trans h217
  clear h218
  clear z n e
  refine opsL 17 220 (v := undef) (by kernel_rfl) (by rw [hs]; decide) ?q431 ?q432
  case q431 => (intro o ho; obtain rfl := Option.some.inj ho; exact Or.inr ⟨wanted_at (b := false) (want := true) rfl (by kernel_rfl) h217, rfl⟩)
  case q432 =>
  intro a z h220 n e
  replace hs := z.trans hs
  replace hd := e.trans hd
  replace K := K.step z n (by decide)
  replace h1 := (n 1 (by decide)).trans h1
  replace h212 := (n 212 (by decide)).trans h212
  replace h217 := (n 217 (by decide)).trans h217
  clear h219
  clear z n e
  refine opsL 18 221 (v := undef) (by kernel_rfl) (by rw [hs]; decide) ?q433 ?q434
  case q433 => (intro o ho; obtain rfl := Option.some.inj ho; exact Or.inr ⟨wanted_at (b := false) (want := true) rfl (by kernel_rfl) h217, rfl⟩)
  case q434 =>
  intro a z h221 n e
  replace hs := z.trans hs
  replace hd := e.trans hd
  replace K := K.step z n (by decide)
  replace h1 := (n 1 (by decide)).trans h1
  replace h212 := (n 212 (by decide)).trans h212
  replace h217 := (n 217 (by decide)).trans h217
  clear h220
  clear z n e
  refine opsL 19 222 (v := .bool false) (by kernel_rfl) (by rw [hs]; decide) ?q435 ?q436
  case q435 => (intro o ho; obtain rfl := Option.some.inj ho; exact Or.inl ⟨wanted_at (b := false) (want := false) rfl (by kernel_rfl) h212, k_pick_no rfl (ev_tmp h217) rfl⟩)
  case q436 =>
  intro a z h222 n e
  replace hs := z.trans hs
  replace hd := e.trans hd
  replace K := K.step z n (by decide)
  replace h1 := (n 1 (by decide)).trans h1
  replace h212 := (n 212 (by decide)).trans h212
  clear h217
  clear h221
  clear z n e
  refine opsL 20 223 (v := .bool false) (by kernel_rfl) (by rw [hs]; decide) ?q437 ?q438
  case q437 => (intro o ho; obtain rfl := Option.some.inj ho; exact Or.inl ⟨wanted_at (b := false) (want := false) rfl (by kernel_rfl) h212, k_move rfl (ev_tmp h222)⟩)
  case q438 =>
  intro a z h223 n e
  replace hs := z.trans hs
  replace hd := e.trans hd
  replace K := K.step z n (by decide)
  replace h1 := (n 1 (by decide)).trans h1
  replace h212 := (n 212 (by decide)).trans h212
  clear h222
  clear z n e
  refine opsL 21 224 (v := undef) (by kernel_rfl) (by rw [hs]; decide) ?q439 ?q440
  case q439 => (intro o ho; obtain rfl := Option.some.inj ho; exact Or.inr ⟨wanted_at (b := false) (want := true) rfl (by kernel_rfl) h223, rfl⟩)
  case q440 =>
  intro a z h224 n e
  replace hs := z.trans hs
  replace hd := e.trans hd
  replace K := K.step z n (by decide)
  replace h1 := (n 1 (by decide)).trans h1
  replace h212 := (n 212 (by decide)).trans h212
  replace h223 := (n 223 (by decide)).trans h223
  clear z n e
  refine opsL 22 225 (v := undef) (by kernel_rfl) (by rw [hs]; decide) ?q441 ?q442
  case q441 => (intro o ho; obtain rfl := Option.some.inj ho; exact Or.inr ⟨wanted_at (b := false) (want := true) rfl (by kernel_rfl) h223, rfl⟩)
  case q442 =>
  intro a z h225 n e
  replace hs := z.trans hs
  replace hd := e.trans hd
  replace K := K.step z n (by decide)
  replace h1 := (n 1 (by decide)).trans h1
  replace h212 := (n 212 (by decide)).trans h212
  replace h223 := (n 223 (by decide)).trans h223
  clear h224
  clear z n e
  refine opsL 23 226 (v := undef) (by kernel_rfl) (by rw [hs]; decide) ?q443 ?q444
  case q443 => (intro o ho; obtain rfl := Option.some.inj ho; exact Or.inr ⟨wanted_at (b := false) (want := true) rfl (by kernel_rfl) h223, rfl⟩)
  case q444 =>
  intro a z h226 n e
  replace hs := z.trans hs
  replace hd := e.trans hd
  replace K := K.step z n (by decide)
  replace h1 := (n 1 (by decide)).trans h1
  replace h212 := (n 212 (by decide)).trans h212
  replace h223 := (n 223 (by decide)).trans h223
  clear h225
  clear z n e
  refine opsL 24 227 (v := undef) (by kernel_rfl) (by rw [hs]; decide) ?q445 ?q446
  case q445 => (intro o ho; obtain rfl := Option.some.inj ho; exact Or.inr ⟨wanted_at (b := false) (want := true) rfl (by kernel_rfl) h223, rfl⟩)
  case q446 =>
  intro a z h227 n e
  replace hs := z.trans hs
  replace hd := e.trans hd
  replace K := K.step z n (by decide)
  replace h1 := (n 1 (by decide)).trans h1
  replace h212 := (n 212 (by decide)).trans h212
  replace h223 := (n 223 (by decide)).trans h223
  clear h226
  clear z n e
  refine opsL 25 228 (v := .bool false) (by kernel_rfl) (by rw [hs]; decide) ?q447 ?q448
  case q447 => (intro o ho; obtain rfl := Option.some.inj ho; exact Or.inl ⟨wanted_at (b := false) (want := false) rfl (by kernel_rfl) h212, k_pick_no rfl (ev_tmp h223) rfl⟩)
  case q448 =>
  intro a z h228 n e
  replace hs := z.trans hs
  replace hd := e.trans hd
  replace K := K.step z n (by decide)
  replace h1 := (n 1 (by decide)).trans h1
  replace h212 := (n 212 (by decide)).trans h212
  clear h223
  clear h227
  clear z n e
  refine opsL 26 229 (v := .bool false) (by kernel_rfl) (by rw [hs]; decide) ?q449 ?q450
  case q449 => (intro o ho; obtain rfl := Option.some.inj ho; exact Or.inl ⟨wanted_at (b := false) (want := false) rfl (by kernel_rfl) h212, k_move rfl (ev_tmp h228)⟩)
  case q450 =>
  intro a z h229 n e
  replace hs := z.trans hs
  replace hd := e.trans hd
  replace K := K.step z n (by decide)
  replace h1 := (n 1 (by decide)).trans h1
  replace h212 := (n 212 (by decide)).trans h212
  clear h228
  clear z n e
  refine opsL 27 230 (v := undef) (by kernel_rfl) (by rw [hs]; decide) ?q451 ?q452
  case q451 => (intro o ho; obtain rfl := Option.some.inj ho; exact Or.inr ⟨wanted_at (b := false) (want := true) rfl (by kernel_rfl) h229, rfl⟩)
  case q452 =>
  intro a z h230 n e
  replace hs := z.trans hs
  replace hd := e.trans hd
  replace K := K.step z n (by decide)
  replace h1 := (n 1 (by decide)).trans h1
  replace h212 := (n 212 (by decide)).trans h212
  replace h229 := (n 229 (by decide)).trans h229
  clear z n e
  refine opsL 28 231 (v := undef) (by kernel_rfl) (by rw [hs]; decide) ?q453 ?q454
  case q453 => (intro o ho; obtain rfl := Option.some.inj ho; exact Or.inr ⟨wanted_at (b := false) (want := true) rfl (by kernel_rfl) h229, rfl⟩)
  case q454 =>
  intro a z h231 n e
  replace hs := z.trans hs
  replace hd := e.trans hd
  replace K := K.step z n (by decide)
  replace h1 := (n 1 (by decide)).trans h1
  replace h212 := (n 212 (by decide)).trans h212
  replace h229 := (n 229 (by decide)).trans h229
  clear h230
  clear z n e
  refine opsL 29 232 (v := undef) (by kernel_rfl) (by rw [hs]; decide) ?q455 ?q456
  case q455 => (intro o ho; obtain rfl := Option.some.inj ho; exact Or.inr ⟨wanted_at (b := false) (want := true) rfl (by kernel_rfl) h229, rfl⟩)
  case q456 =>
  intro a z h232 n e
  replace hs := z.trans hs
  replace hd := e.trans hd
  replace K := K.step z n (by decide)
  replace h1 := (n 1 (by decide)).trans h1
  replace h212 := (n 212 (by decide)).trans h212
  replace h229 := (n 229 (by decide)).trans h229
  clear h231
  clear z n e
  refine opsL 30 233 (v := undef) (by kernel_rfl) (by rw [hs]; decide) ?q457 ?q458
  case q457 => (intro o ho; obtain rfl := Option.some.inj ho; exact Or.inr ⟨wanted_at (b := false) (want := true) rfl (by kernel_rfl) h229, rfl⟩)
  case q458 =>
  intro a z h233 n e
  replace hs := z.trans hs
  replace hd := e.trans hd
  replace K := K.step z n (by decide)
  replace h1 := (n 1 (by decide)).trans h1
  replace h212 := (n 212 (by decide)).trans h212
  replace h229 := (n 229 (by decide)).trans h229
  clear h232
  clear z n e
  refine opsL 31 234 (v := .bool false) (by kernel_rfl) (by rw [hs]; decide) ?q459 ?q460
  case q459 => (intro o ho; obtain rfl := Option.some.inj ho; exact Or.inl ⟨wanted_at (b := false) (want := false) rfl (by kernel_rfl) h212, k_pick_no rfl (ev_tmp h229) rfl⟩)
  case q460 =>
  intro a z h234 n e
  replace hs := z.trans hs
  replace hd := e.trans hd
  replace K := K.step z n (by decide)
  replace h1 := (n 1 (by decide)).trans h1
  replace h212 := (n 212 (by decide)).trans h212
  clear h229
  clear h233
  clear z n e
  refine opsL 32 235 (v := .bool false) (by kernel_rfl) (by rw [hs]; decide) ?q461 ?q462
  case q461 => (intro o ho; obtain rfl := Option.some.inj ho; exact Or.inl ⟨rfl, k_pick_no rfl (ev_tmp h212) (ev_tmp h234)⟩)
  case q462 =>
  intro a z h235 n e
  replace hs := z.trans hs
  replace hd := e.trans hd
  replace K := K.step z n (by decide)
  replace h1 := (n 1 (by decide)).trans h1
  clear h212
  clear h234
  clear z n e
  exact hR _ K hd h235

set_option maxRecDepth 100000 in
set_option maxHeartbeats 1000000 in
theorem reg32_pm (a0 : Act) (w : World) (Q : Exit → Act → World → Prop) (b : Nat) (f : Int) (AM AD AW AP : Option Addr) (cM cD cW cP : Nat) (M D : List Int) (W : List (Int × Int)) (P : List Int) (hs0 : a0.tmps.size = 236) (h1 : a0.tmps.getD 1 undef = .pointer (some ⟨b, 0, none⟩))
    (_e0 : w.cell? ⟨b, 0, none⟩ = some (.int .i64 f)) (e4 : w.cell? ⟨b, 4, none⟩ = some (.slice AM M.length cM)) (e5 : w.cell? ⟨b, 5, none⟩ = some (.slice AD D.length cD)) (_e6 : w.cell? ⟨b, 6, none⟩ = some (.slice AW W.length cW)) (e7 : w.cell? ⟨b, 7, none⟩ = some (.slice AP P.length cP))
    (gD : decide ((0 : Int) < D.length) = false) (gP : decide ((0 : Int) < P.length) = true) (zM : ((M.length : Int) == 0) = false)
    (hR : ∀ a' : Act, Keep 203 235 235 a0.tmps a'.tmps → a'.defers = a0.defers → a'.tmps.getD 235 undef = .bool false → Q .normal a' w) :
    (Code.region 32 ops32 false).wp Tryd.prog Q a0 w := by
  have hs := hs0
  have K := Keep.refl 203 235 235 a0.tmps
  have hd : a0.defers = a0.defers := rfl
  conv => arg 2; arg 2; whnf
  refine wp_region (show wpOps _ _ _ [0, 1, 2, 3, 4, 5, 6, 7, 8, 9, 10, 11, 12, 13, 14, 15, 16, 17, 18, 19, 20, 21, 22, 23, 24, 25, 26, 27, 28, 29, 30, 31, 32] _ _ from ?_)
  refine opsL 0 203 (v := .pointer (some ⟨b, 5, none⟩)) (by kernel_rfl) (by rw [hs]; decide) ?q463 ?q464
  case q463 => (intro o ho; obtain rfl := Option.some.inj ho; exact Or.inl ⟨rfl, k_field5 rfl (ev_tmp h1)⟩)
  case q464 =>
  intro a z h203 n e
  replace hs := z.trans hs
  replace hd := e.trans hd
  replace K := K.step z n (by decide)
  replace h1 := (n 1 (by decide)).trans h1
  clear z n e
  refine opsL 1 204 (v := .slice AD D.length cD) (by kernel_rfl) (by rw [hs]; decide) ?q465 ?q466
  case q465 => (intro o ho; obtain rfl := Option.some.inj ho; exact Or.inl ⟨rfl, k_loadL rfl (ev_tmp h203) e5⟩)
  case q466 =>
  intro a z h204 n e
  replace hs := z.trans hs
  replace hd := e.trans hd
  replace K := K.step z n (by decide)
  replace h1 := (n 1 (by decide)).trans h1
  clear h203
  clear z n e
  refine opsL 2 205 (v := .int .i64 D.length) (by kernel_rfl) (by rw [hs]; decide) ?q467 ?q468
  case q467 => (intro o ho; obtain rfl := Option.some.inj ho; exact Or.inl ⟨rfl, k_lenL rfl (ev_tmp h204)⟩)
  case q468 =>
  intro a z h205 n e
  replace hs := z.trans hs
  replace hd := e.trans hd
  replace K := K.step z n (by decide)
  replace h1 := (n 1 (by decide)).trans h1
  clear h204
  clear z n e
  refine opsL 3 206 (v := .bool false) (by kernel_rfl) (by rw [hs]; decide) ?q469 ?q470
  case q469 => (intro o ho; obtain rfl := Option.some.inj ho; exact Or.inl ⟨rfl, k_gt rfl (ev_tmp h205) rfl gD⟩)
  case q470 =>
  intro a z h206 n e
  replace hs := z.trans hs
  replace hd := e.trans hd
  replace K := K.step z n (by decide)
  replace h1 := (n 1 (by decide)).trans h1
  clear h205
  clear z n e
  refine opsL 4 207 (v := .bool false) (by kernel_rfl) (by rw [hs]; decide) ?q471 ?q472
  case q471 => (intro o ho; obtain rfl := Option.some.inj ho; exact Or.inl ⟨rfl, k_move rfl (ev_tmp h206)⟩)
  case q472 =>
  intro a z h207 n e
  replace hs := z.trans hs
  replace hd := e.trans hd
  replace K := K.step z n (by decide)
  replace h1 := (n 1 (by decide)).trans h1
  clear h206
  clear z n e
  refine opsL 5 208 (v := undef) (by kernel_rfl) (by rw [hs]; decide) ?q473 ?q474
  case q473 => (intro o ho; obtain rfl := Option.some.inj ho; exact Or.inr ⟨wanted_at (b := false) (want := true) rfl (by kernel_rfl) h207, rfl⟩)
  case q474 =>
  intro a z h208 n e
  replace hs := z.trans hs
  replace hd := e.trans hd
  replace K := K.step z n (by decide)
  replace h1 := (n 1 (by decide)).trans h1
  replace h207 := (n 207 (by decide)).trans h207
  clear z n e
  refine opsL 6 209 (v := undef) (by kernel_rfl) (by rw [hs]; decide) ?q475 ?q476
  case q475 => (intro o ho; obtain rfl := Option.some.inj ho; exact Or.inr ⟨wanted_at (b := false) (want := true) rfl (by kernel_rfl) h207, rfl⟩)
  case q476 =>
  intro a z h209 n e
  replace hs := z.trans hs
  replace hd := e.trans hd
  replace K := K.step z n (by decide)
  replace h1 := (n 1 (by decide)).trans h1
  replace h207 := (n 207 (by decide)).trans h207
  clear h208
  clear z n e
  refine opsL 7 210 (v := undef) (by kernel_rfl) (by rw [hs]; decide) ?q477 ?q478
  case q477 => (intro o ho; obtain rfl := Option.some.inj ho; exact Or.inr ⟨wanted_at (b := false) (want := true) rfl (by kernel_rfl) h207, rfl⟩)
  case q478 =>
  intro a z h210 n e
  replace hs := z.trans hs
  replace hd := e.trans hd
  replace K := K.step z n (by decide)
  replace h1 := (n 1 (by decide)).trans h1
  replace h207 := (n 207 (by decide)).trans h207
  clear h209
  clear z n e
  refine opsL 8 211 (v := .bool false) (by kernel_rfl) (by rw [hs]; decide) ?q479 ?q480
  case q479 => (intro o ho; obtain rfl := Option.some.inj ho; exact Or.inl ⟨rfl, k_pick_no rfl (ev_tmp h207) rfl⟩)
  case q480 =>
  intro a z h211 n e
  replace hs := z.trans hs
  replace hd := e.trans hd
  replace K := K.step z n (by decide)
  replace h1 := (n 1 (by decide)).trans h1
  clear h207
  clear h210
  clear z n e
  refine opsL 9 212 (v := .bool false) (by kernel_rfl) (by rw [hs]; decide) ?q481 ?q482
  case q481 => (intro o ho; obtain rfl := Option.some.inj ho; exact Or.inl ⟨rfl, k_move rfl (ev_tmp h211)⟩)
  case q482 =>
  intro a z h212 n e
  replace hs := z.trans hs
  replace hd := e.trans hd
  replace K := K.step z n (by decide)
  replace h1 := (n 1 (by decide)).trans h1
  clear h211
  clear z n e
  refine opsL 10 213 (v := .pointer (some ⟨b, 7, none⟩)) (by kernel_rfl) (by rw [hs]; decide) ?q483 ?q484
  case q483 => (intro o ho; obtain rfl := Option.some.inj ho; exact Or.inl ⟨wanted_at (b := false) (want := false) rfl (by kernel_rfl) h212, k_field7 rfl (ev_tmp h1)⟩)
  case q484 =>
  intro a z h213 n e
  replace hs := z.trans hs
  replace hd := e.trans hd
  replace K := K.step z n (by decide)
  replace h1 := (n 1 (by decide)).trans h1
  replace h212 := (n 212 (by decide)).trans h212
  clear z n e
  refine opsL 11 214 (v := .slice AP P.length cP) (by kernel_rfl) (by rw [hs]; decide) ?q485 ?q486
  case q485 => (intro o ho; obtain rfl := Option.some.inj ho; exact Or.inl ⟨wanted_at (b := false) (want := false) rfl (by kernel_rfl) h212, k_loadL rfl (ev_tmp h213) e7⟩)
  case q486 =>
  intro a z h214 n e
  replace hs := z.trans hs
  replace hd := e.trans hd
  replace K := K.step z n (by decide)
  replace h1 := (n 1 (by decide)).trans h1
  replace h212 := (n 212 (by decide)).trans h212
  clear h213
  clear z n e
  refine opsL 12 215 (v := .int .i64 P.length) (by kernel_rfl) (by rw [hs]; decide) ?q487 ?q488
  case q487 => (intro o ho; obtain rfl := Option.some.inj ho; exact Or.inl ⟨wanted_at (b := false) (want := false) rfl (by kernel_rfl) h212, k_lenL rfl (ev_tmp h214)⟩)
  case q488 =>
  intro a z h215 n e
  replace hs := z.trans hs
  replace hd := e.trans hd
  replace K := K.step z n (by decide)
  replace h1 := (n 1 (by decide)).trans h1
  replace h212 := (n 212 (by decide)).trans h212
  clear h214
  clear z n e
  refine opsL 13 216 (v := .bool true) (by kernel_rfl) (by rw [hs]; decide) ?q489 ?q490
  case q489 => (intro o ho; obtain rfl := Option.some.inj ho; exact Or.inl ⟨wanted_at (b := false) (want := false) rfl (by kernel_rfl) h212, k_gt rfl (ev_tmp h215) rfl gP⟩)
  case q490 =>
  intro a z h216 n e
  replace hs := z.trans hs
  replace hd := e.trans hd
  replace K := K.step z n (by decide)
  replace h1 := (n 1 (by decide)).trans h1
  replace h212 := (n 212 (by decide)).trans h212
  clear h215
  clear z n e
  refine opsL 14 217 (v := .bool true) (by kernel_rfl) (by rw [hs]; decide) ?q491 ?q492
  case q491 => (intro o ho; obtain rfl := Option.some.inj ho; exact Or.inl ⟨wanted_at (b := false) (want := false) rfl (by kernel_rfl) h212, k_move rfl (ev_tmp h216)⟩)
  case q492 =>
  intro a z h217 n e
  replace hs := z.trans hs
  replace hd := e.trans hd
  replace K := K.step z n (by decide)
  replace h1 := (n 1 (by decide)).trans h1
  replace h212 := (n 212 (by decide)).trans h212
  clear h216
  clear z n e
  refine opsL 15 218 (v := .pointer (some ⟨b, 4, none⟩)) (by kernel_rfl) (by rw [hs]; decide) ?q493 ?q494
  case q493 => (intro o ho; obtain rfl := Option.some.inj ho; exact Or.inl ⟨wanted_at (b := true) (want := true) rfl (by kernel_rfl) h217, k_field4 rfl (ev_tmp h1)⟩)
  case q494 =>
  intro a z h218 n e
  replace hs := z.trans hs
  replace hd := e.trans hd
  replace K := K.step z n (by decide)
  replace h1 := (n 1 (by decide)).trans h1
  replace h212 := (n 212 (by decide)).trans h212
  replace h217 := (n 217 (by decide)).trans h217
  clear z n e
  refine opsL 16 219 (v := .slice AM M.length cM) (by kernel_rfl) (by rw [hs]; decide) ?q495 ?q496
  case q495 => (intro o ho; obtain rfl := Option.some.inj ho; exact Or.inl ⟨wanted_at (b := true) (want := true) rfl (by kernel_rfl) h217, k_loadL rfl (ev_tmp h218) e4⟩)
  case q496 =>
  intro a z h219 n e
  replace hs := z.trans hs
  replace hd := e.trans hd
  replace K := K.step z n (by decide)
  replace h1 := (n 1 (by decide)).trans h1
  replace h212 := (n 212 (by decide)).trans h212
  replace h217 := (n 217 (by decide)).trans h217
  clear h218
  clear z n e
  refine opsL 17 220 (v := .int .i64 M.length) (by kernel_rfl) (by rw [hs]; decide) ?q497 ?q498
  case q497 => (intro o ho; obtain rfl := Option.some.inj ho; exact Or.inl ⟨wanted_at (b := true) (want := true) rfl (by kernel_rfl) h217, k_lenL rfl (ev_tmp h219)⟩)
  case q498 =>
  intro a z h220 n e
  replace hs := z.trans hs
  replace hd := e.trans hd
  replace K := K.step z n (by decide)
  replace h1 := (n 1 (by decide)).trans h1
  replace h212 := (n 212 (by decide)).trans h212
  replace h217 := (n 217 (by decide)).trans h217
  clear h219
  clear z n e
  refine opsL 18 221 (v := .bool false) (by kernel_rfl) (by rw [hs]; decide) ?q499 ?q500
  case q499 => (intro o ho; obtain rfl := Option.some.inj ho; exact Or.inl ⟨wanted_at (b := true) (want := true) rfl (by kernel_rfl) h217, k_eq rfl (ev_tmp h220) rfl zM⟩)
  case q500 =>
  intro a z h221 n e
  replace hs := z.trans hs
  replace hd := e.trans hd
  replace K := K.step z n (by decide)
  replace h1 := (n 1 (by decide)).trans h1
  replace h212 := (n 212 (by decide)).trans h212
  replace h217 := (n 217 (by decide)).trans h217
  clear h220
  clear z n e
  refine opsL 19 222 (v := .bool false) (by kernel_rfl) (by rw [hs]; decide) ?q501 ?q502
  case q501 => (intro o ho; obtain rfl := Option.some.inj ho; exact Or.inl ⟨wanted_at (b := false) (want := false) rfl (by kernel_rfl) h212, k_pick_yes rfl (ev_tmp h217) (ev_tmp h221)⟩)
  case q502 =>
  intro a z h222 n e
  replace hs := z.trans hs
  replace hd := e.trans hd
  replace K := K.step z n (by decide)
  replace h1 := (n 1 (by decide)).trans h1
  replace h212 := (n 212 (by decide)).trans h212
  clear h217
  clear h221
  clear z n e
  refine opsL 20 223 (v := .bool false) (by kernel_rfl) (by rw [hs]; decide) ?q503 ?q504
  case q503 => (intro o ho; obtain rfl := Option.some.inj ho; exact Or.inl ⟨wanted_at (b := false) (want := false) rfl (by kernel_rfl) h212, k_move rfl (ev_tmp h222)⟩)
  case q504 =>
  intro a z h223 n e
  replace hs := z.trans hs
  replace hd := e.trans hd
  replace K := K.step z n (by decide)
  replace h1 := (n 1 (by decide)).trans h1
  replace h212 := (n 212 (by decide)).trans h212
  clear h222
  clear z n e
  refine opsL 21 224 (v := undef) (by kernel_rfl) (by rw [hs]; decide) ?q505 ?q506
  case q505 => (intro o ho; obtain rfl := Option.some.inj ho; exact Or.inr ⟨wanted_at (b := false) (want := true) rfl (by kernel_rfl) h223, rfl⟩)
  case q506 =>
  intro a z h224 n e
  replace hs := z.trans hs
  replace hd := e.trans hd
  replace K := K.step z n (by decide)
  replace h1 := (n 1 (by decide)).trans h1
  replace h212 := (n 212 (by decide)).trans h212
  replace h223 := (n 223 (by decide)).trans h223
  clear z n e
  refine opsL 22 225 (v := undef) (by kernel_rfl) (by rw [hs]; decide) ?q507 ?q508
  case q507 => (intro o ho; obtain rfl := Option.some.inj ho; exact Or.inr ⟨wanted_at (b := false) (want := true) rfl (by kernel_rfl) h223, rfl⟩)
  case q508 =>
  intro a z h225 n e
  replace hs := z.trans hs
  replace hd := e.trans hd
  replace K := K.step z n (by decide)
  replace h1 := (n 1 (by decide)).trans h1
  replace h212 := (n 212 (by decide)).trans h212
  replace h223 := (n 223 (by decide)).trans h223
  clear h224
  clear z n e
  refine opsL 23 226 (v := undef) (by kernel_rfl) (by rw [hs]; decide) ?q509 ?q510
  case q509 => (intro o ho; obtain rfl := Option.some.inj ho; exact Or.inr ⟨wanted_at (b := false) (want := true) rfl (by kernel_rfl) h223, rfl⟩)
  case q510 =>
  intro a z h226 n e
  replace hs := z.trans hs
  replace hd := e.trans hd
  replace K := K.step z n (by decide)
  replace h1 := (n 1 (by decide)).trans h1
  replace h212 := (n 212 (by decide)).trans h212
  replace h223 := (n 223 (by decide)).trans h223
  clear h225
  clear z n e
  refine opsL 24 227 (v := undef) (by kernel_rfl) (by rw [hs]; decide) ?q511 ?q512
  case q511 => (intro o ho; obtain rfl := Option.some.inj ho; exact Or.inr ⟨wanted_at (b := false) (want := true) rfl (by kernel_rfl) h223, rfl⟩)
  case q512 =>
  intro a z h227 n e
  replace hs := z.trans hs
  replace hd := e.trans hd
  replace K := K.step z n (by decide)
  replace h1 := (n 1 (by decide)).trans h1
  replace h212 := (n 212 (by decide)).trans h212
  replace h223 := (n 223 (by decide)).trans h223
  clear h226
  clear z n e
  refine opsL 25 228 (v := .bool false) (by kernel_rfl) (by rw [hs]; decide) ?q513 ?q514
  case q513 => (intro o ho; obtain rfl := Option.some.inj ho; exact Or.inl ⟨wanted_at (b := false) (want := false) rfl (by kernel_rfl) h212, k_pick_no rfl (ev_tmp h223) rfl⟩)
  case q514 =>
  intro a z h228 n e
  replace hs := z.trans hs
  replace hd := e.trans hd
  replace K := K.step z n (by decide)
  replace h1 := (n 1 (by decide)).trans h1
  replace h212 := (n 212 (by decide)).trans h212
  clear h223
  clear h227
  clear z n e
  refine opsL 26 229 (v := .bool false) (by kernel_rfl) (by rw [hs]; decide) ?q515 ?q516
  case q515 => (intro o ho; obtain rfl := Option.some.inj ho; exact Or.inl ⟨wanted_at (b := false) (want := false) rfl (by kernel_rfl) h212, k_move rfl (ev_tmp h228)⟩)
  case q516 =>
  intro a z h229 n e
  replace hs := z.trans hs
  replace hd := e.trans hd
  replace K := K.step z n (by decide)
  replace h1 := (n 1 (by decide)).trans h1
  replace h212 := (n 212 (by decide)).trans h212
  clear h228
  clear z n e
  refine opsL 27 230 (v := undef) (by kernel_rfl) (by rw [hs]; decide) ?q517 ?q518
  case q517 => (intro o ho; obtain rfl := Option.some.inj ho; exact Or.inr ⟨wanted_at (b := false) (want := true) rfl (by kernel_rfl) h229, rfl⟩)
  case q518 =>
  intro a z h230 n e
  replace hs := z.trans hs
  replace hd := e.trans hd
  replace K := K.step z n (by decide)
  replace h1 := (n 1 (by decide)).trans h1
  replace h212 := (n 212 (by decide)).trans h212
  replace h229 := (n 229 (by decide)).trans h229
  clear z n e
  refine opsL 28 231 (v := undef) (by kernel_rfl) (by rw [hs]; decide) ?q519 ?q520
  case q519 => (intro o ho; obtain rfl := Option.some.inj ho; exact Or.inr ⟨wanted_at (b := false) (want := true) rfl (by kernel_rfl) h229, rfl⟩)
  case q520 =>
  intro a z h231 n e
  replace hs := z.trans hs
  replace hd := e.trans hd
  replace K := K.step z n (by decide)
  replace h1 := (n 1 (by decide)).trans h1
  replace h212 := (n 212 (by decide)).trans h212
  replace h229 := (n 229 (by decide)).trans h229
  clear h230
  clear z n e
  refine opsL 29 232 (v := undef) (by kernel_rfl) (by rw [hs]; decide) ?q521 ?q522
  case q521 => (intro o ho; obtain rfl := Option.some.inj ho; exact Or.inr ⟨wanted_at (b := false) (want := true) rfl (by kernel_rfl) h229, rfl⟩)
  case q522 =>
  intro a z h232 n e
  replace hs := z.trans hs
  replace hd := e.trans hd
  replace K := K.step z n (by decide)
  replace h1 := (n 1 (by decide)).trans h1
  replace h212 := (n 212 (by decide)).trans h212
  replace h229 := (n 229 (by decide)).trans h229
  clear h231
  clear z n e
  refine opsL 30 233 (v := undef) (by kernel_rfl) (by rw [hs]; decide) ?q523 ?q524
  case q523 => (intro o ho; obtain rfl := Option.some.inj ho; exact Or.inr ⟨wanted_at (b := false) (want := true) rfl (by kernel_rfl) h229, rfl⟩)
  case q524 =>
  intro a z h233 n e
  replace hs := z.trans hs
  replace hd := e.trans hd
  replace K := K.step z n (by decide)
  replace h1 := (n 1 (by decide)).trans h1
  replace h212 := (n 212 (by decide)).trans h212
  replace h229 := (n 229 (by decide)).trans h229
  clear h232
  clear z n e
  refine opsL 31 234 (v := .bool false) (by kernel_rfl) (by rw [hs]; decide) ?q525 ?q526
  case q525 => (intro o ho; obtain rfl := Option.some.inj ho; exact Or.inl ⟨wanted_at (b := false) (want := false) rfl (by kernel_rfl) h212, k_pick_no rfl (ev_tmp h229) rfl⟩)
  case q526 =>
  intro a z h234 n e
  replace hs := z.trans hs
  replace hd := e.trans hd
  replace K := K.step z n (by decide)
  replace h1 := (n 1 (by decide)).trans h1
  replace h212 := (n 212 (by decide)).trans h212
  clear h229
  clear h233
  clear z n e
  refine opsL 32 235 (v := .bool false) (by kernel_rfl) (by rw [hs]; decide) ?q527 ?q528
  case q527 => (intro o ho; obtain rfl := Option.some.inj ho; exact Or.inl ⟨rfl, k_pick_no rfl (ev_tmp h212) (ev_tmp h234)⟩)
  case q528 =>
  intro a z h235 n e
  replace hs := z.trans hs
  replace hd := e.trans hd
  replace K := K.step z n (by decide)
  replace h1 := (n 1 (by decide)).trans h1
  clear h212
  clear h234
  clear z n e
  exact hR _ K hd h235

set_option maxRecDepth 100000 in
set_option maxHeartbeats 1000000 in
theorem reg32_p0w (a0 : Act) (w : World) (Q : Exit → Act → World → Prop) (b : Nat) (f : Int) (AM AD AW AP : Option Addr) (cM cD cW cP : Nat) (M D : List Int) (W : List (Int × Int)) (P : List Int) (hs0 : a0.tmps.size = 236) (h1 : a0.tmps.getD 1 undef = .pointer (some ⟨b, 0, none⟩))
    (_e0 : w.cell? ⟨b, 0, none⟩ = some (.int .i64 f)) (e4 : w.cell? ⟨b, 4, none⟩ = some (.slice AM M.length cM)) (e5 : w.cell? ⟨b, 5, none⟩ = some (.slice AD D.length cD)) (e6 : w.cell? ⟨b, 6, none⟩ = some (.slice AW W.length cW)) (e7 : w.cell? ⟨b, 7, none⟩ = some (.slice AP P.length cP))
    (gD : decide ((0 : Int) < D.length) = false) (gP : decide ((0 : Int) < P.length) = true) (zM : ((M.length : Int) == 0) = true) (zD : ((D.length : Int) == 0) = true) (zW : ((W.length : Int) == 0) = false)
    (hR : ∀ a' : Act, Keep 203 235 235 a0.tmps a'.tmps → a'.defers = a0.defers → a'.tmps.getD 235 undef = .bool false → Q .normal a' w) :
    (Code.region 32 ops32 false).wp Tryd.prog Q a0 w := by
  have hs := hs0
  have K := Keep.refl 203 235 235 a0.tmps
  have hd : a0.defers = a0.defers := rfl
  conv => arg 2; arg 2; whnf
  refine wp_region (show wpOps _ _ _ [0, 1, 2, 3, 4, 5, 6, 7, 8, 9, 10, 11, 12, 13, 14, 15, 16, 17, 18, 19, 20, 21, 22, 23, 24, 25, 26, 27, 28, 29, 30, 31, 32] _ _ from ?_)
  refine opsL 0 203 (v := .pointer (some ⟨b, 5, none⟩)) (by kernel_rfl) (by rw [hs]; decide) ?q529 ?q530
  case q529 => (intro o ho; obtain rfl := Option.some.inj ho; exact Or.inl ⟨rfl, k_field5 rfl (ev_tmp h1)⟩)
  case q530 =>
  intro a z h203 n e
  replace hs := z.trans hs
  replace hd := e.trans hd
  replace K := K.step z n (by decide)
  replace h1 := (n 1 (by decide)).trans h1
  clear z n e
  refine opsL 1 204 (v := .slice AD D.length cD) (by kernel_rfl) (by rw [hs]; decide) ?q531 ?q532
  case q531 => (intro o ho; obtain rfl := Option.some.inj ho; exact Or.inl ⟨rfl, k_loadL rfl (ev_tmp h203) e5⟩)
  case q532 =>
  intro a z h204 n e
  replace hs := z.trans hs
  replace hd := e.trans hd
  replace K := K.step z n (by decide)
  replace h1 := (n 1 (by decide)).trans h1
  clear h203
  clear z n e
  refine opsL 2 205 (v := .int .i64 D.length) (by kernel_rfl) (by rw [hs]; decide) ?q533 ?q534
  case q533 => (intro o ho; obtain rfl := Option.some.inj ho; exact Or.inl ⟨rfl, k_lenL rfl (ev_tmp h204)⟩)
  case q534 =>
  intro a z h205 n e
  replace hs := z.trans hs
  replace hd := e.trans hd
  replace K := K.step z n (by decide)
  replace h1 := (n 1 (by decide)).trans h1
  clear h204
  clear z n e
  refine opsL 3 206 (v := .bool false) (by kernel_rfl) (by rw [hs]; decide) ?q535 ?q536
  case q535 => (intro o ho; obtain rfl := Option.some.inj ho; exact Or.inl ⟨rfl, k_gt rfl (ev_tmp h205) rfl gD⟩)
  case q536 =>
  intro a z h206 n e
  replace hs := z.trans hs
  replace hd := e.trans hd
  replace K := K.step z n (by decide)
  replace h1 := (n 1 (by decide)).trans h1
  clear h205
  clear z n e
  refine opsL 4 207 (v := .bool false) (by kernel_rfl) (by rw [hs]; decide) ?q537 ?q538
  case q537 => (intro o ho; obtain rfl := Option.some.inj ho; exact Or.inl ⟨rfl, k_move rfl (ev_tmp h206)⟩)
  case q538 =>
  intro a z h207 n e
  replace hs := z.trans hs
  replace hd := e.trans hd
  replace K := K.step z n (by decide)
  replace h1 := (n 1 (by decide)).trans h1
  clear h206
  clear z n e
  refine opsL 5 208 (v := undef) (by kernel_rfl) (by rw [hs]; decide) ?q539 ?q540
  case q539 => (intro o ho; obtain rfl := Option.some.inj ho; exact Or.inr ⟨wanted_at (b := false) (want := true) rfl (by kernel_rfl) h207, rfl⟩)
  case q540 =>
  intro a z h208 n e
  replace hs := z.trans hs
  replace hd := e.trans hd
  replace K := K.step z n (by decide)
  replace h1 := (n 1 (by decide)).trans h1
  replace h207 := (n 207 (by decide)).trans h207
  clear z n e
  refine opsL 6 209 (v := undef) (by kernel_rfl) (by rw [hs]; decide) ?q541 ?q542
  case q541 => (intro o ho; obtain rfl := Option.some.inj ho; exact Or.inr ⟨wanted_at (b := false) (want := true) rfl (by kernel_rfl) h207, rfl⟩)
  case q542 =>
  intro a z h209 n e
  replace hs := z.trans hs
  replace hd := e.trans hd
  replace K := K.step z n (by decide)
  replace h1 := (n 1 (by decide)).trans h1
  replace h207 := (n 207 (by decide)).trans h207
  clear h208
  clear z n e
  refine opsL 7 210 (v := undef) (by kernel_rfl) (by rw [hs]; decide) ?q543 ?q544
  case q543 => (intro o ho; obtain rfl := Option.some.inj ho; exact Or.inr ⟨wanted_at (b := false) (want := true) rfl (by kernel_rfl) h207, rfl⟩)
  case q544 =>
  intro a z h210 n e
  replace hs := z.trans hs
  replace hd := e.trans hd
  replace K := K.step z n (by decide)
  replace h1 := (n 1 (by decide)).trans h1
  replace h207 := (n 207 (by decide)).trans h207
  clear h209
  clear z n e
  refine opsL 8 211 (v := .bool false) (by kernel_rfl) (by rw [hs]; decide) ?q545 ?q546
  case q545 => (intro o ho; obtain rfl := Option.some.inj ho; exact Or.inl ⟨rfl, k_pick_no rfl (ev_tmp h207) rfl⟩)
  case q546 =>
  intro a z h211 n e
  replace hs := z.trans hs
  replace hd := e.trans hd
  replace K := K.step z n (by decide)
  replace h1 := (n 1 (by decide)).trans h1
  clear h207
  clear h210
  clear z n e
  refine opsL 9 212 (v := .bool false) (by kernel_rfl) (by rw [hs]; decide) ?q547 ?q548
  case q547 => (intro o ho; obtain rfl := Option.some.inj ho; exact Or.inl ⟨rfl, k_move rfl (ev_tmp h211)⟩)
  case q548 =>
  intro a z h212 n e
  replace hs := z.trans hs
  replace hd := e.trans hd
  replace K := K.step z n (by decide)
  replace h1 := (n 1 (by decide)).trans h1
  clear h211
  clear z n e
  refine opsL 10 213 (v := .pointer (some ⟨b, 7, none⟩)) (by kernel_rfl) (by rw [hs]; decide) ?q549 ?q550
  case q549 => (intro o ho; obtain rfl := Option.some.inj ho; exact Or.inl ⟨wanted_at (b := false) (want := false) rfl (by kernel_rfl) h212, k_field7 rfl (ev_tmp h1)⟩)
  case q550 =>
  intro a z h213 n e
  replace hs := z.trans hs
  replace hd := e.trans hd
  replace K := K.step z n (by decide)
  replace h1 := (n 1 (by decide)).trans h1
  replace h212 := (n 212 (by decide)).trans h212
  clear z n e
  refine opsL 11 214 (v := .slice AP P.length cP) (by kernel_rfl) (by rw [hs]; decide) ?q551 ?q552
  case q551 => (intro o ho; obtain rfl := Option.some.inj ho; exact Or.inl ⟨wanted_at (b := false) (want := false) rfl (by kernel_rfl) h212, k_loadL rfl (ev_tmp h213) e7⟩)
  case q552 =>
  intro a z h214 n e
  replace hs := z.trans hs
  replace hd := e.trans hd
  replace K := K.step z n (by decide)
  replace h1 := (n 1 (by decide)).trans h1
  replace h212 := (n 212 (by decide)).trans h212
  clear h213
  clear z n e
  refine opsL 12 215 (v := .int .i64 P.length) (by kernel_rfl) (by rw [hs]; decide) ?q553 ?q554
  case q553 => (intro o ho; obtain rfl := Option.some.inj ho; exact Or.inl ⟨wanted_at (b := false) (want := false) rfl (by kernel_rfl) h212, k_lenL rfl (ev_tmp h214)⟩)
  case q554 =>
  intro a z h215 n e
  replace hs := z.trans hs
  replace hd := e.trans hd
  replace K := K.step z n (by decide)
  replace h1 := (n 1 (by decide)).trans h1
  replace h212 := (n 212 (by decide)).trans h212
  clear h214
  clear z n e
  refine opsL 13 216 (v := .bool true) (by kernel_rfl) (by rw [hs]; decide) ?q555 ?q556
  case q555 => (intro o ho; obtain rfl := Option.some.inj ho; exact Or.inl ⟨wanted_at (b := false) (want := false) rfl (by kernel_rfl) h212, k_gt rfl (ev_tmp h215) rfl gP⟩)
  case q556 =>
  intro a z h216 n e
  replace hs := z.trans hs
  replace hd := e.trans hd
  replace K := K.step z n (by decide)
  replace h1 := (n 1 (by decide)).trans h1
  replace h212 := (n 212 (by decide)).trans h212
  clear h215
  clear z n e
  refine opsL 14 217 (v := .bool true) (by kernel_rfl) (by rw [hs]; decide) ?q557 ?q558
  case q557 => (intro o ho; obtain rfl := Option.some.inj ho; exact Or.inl ⟨wanted_at (b := false) (want := false) rfl (by kernel_rfl) h212, k_move rfl (ev_tmp h216)⟩)
  case q558 =>
  intro a z h217 n e
  replace hs := z.trans hs
  replace hd := e.trans hd
  replace K := K.step z n (by decide)
  replace h1 := (n 1 (by decide)).trans h1
  replace h212 := (n 212 (by decide)).trans h212
  clear h216
  clear z n e
  refine opsL 15 218 (v := .pointer (some ⟨b, 4, none⟩)) (by kernel_rfl) (by rw [hs]; decide) ?q559 ?q560
  case q559 => (intro o ho; obtain rfl := Option.some.inj ho; exact Or.inl ⟨wanted_at (b := true) (want := true) rfl (by kernel_rfl) h217, k_field4 rfl (ev_tmp h1)⟩)
  case q560 =>
  intro a z h218 n e
  replace hs := z.trans hs
  replace hd := e.trans hd
  replace K := K.step z n (by decide)
  replace h1 := (n 1 (by decide)).trans h1
  replace h212 := (n 212 (by decide)).trans h212
  replace h217 := (n 217 (by decide)).trans h217
  clear z n e
  refine opsL 16 219 (v := .slice AM M.length cM) (by kernel_rfl) (by rw [hs]; decide) ?q561 ?q562
  case q561 => (intro o ho; obtain rfl := Option.some.inj ho; exact Or.inl ⟨wanted_at (b := true) (want := true) rfl (by kernel_rfl) h217, k_loadL rfl (ev_tmp h218) e4⟩)
  case q562 =>
  intro a z h219 n e
  replace hs := z.trans hs
  replace hd := e.trans hd
  replace K := K.step z n (by decide)
  replace h1 := (n 1 (by decide)).trans h1
  replace h212 := (n 212 (by decide)).trans h212
  replace h217 := (n 217 (by decide)).trans h217
  clear h218
  clear z n e
  refine opsL 17 220 (v := .int .i64 M.length) (by kernel_rfl) (by rw [hs]; decide) ?q563 ?q564
  case q563 => (intro o ho; obtain rfl := Option.some.inj ho; exact Or.inl ⟨wanted_at (b := true) (want := true) rfl (by kernel_rfl) h217, k_lenL rfl (ev_tmp h219)⟩)
  case q564 =>
  intro a z h220 n e
  replace hs := z.trans hs
  replace hd := e.trans hd
  replace K := K.step z n (by decide)
  replace h1 := (n 1 (by decide)).trans h1
  replace h212 := (n 212 (by decide)).trans h212
  replace h217 := (n 217 (by decide)).trans h217
  clear h219
  clear z n e
  refine opsL 18 221 (v := .bool true) (by kernel_rfl) (by rw [hs]; decide) ?q565 ?q566
  case q565 => (intro o ho; obtain rfl := Option.some.inj ho; exact Or.inl ⟨wanted_at (b := true) (want := true) rfl (by kernel_rfl) h217, k_eq rfl (ev_tmp h220) rfl zM⟩)
  case q566 =>
  intro a z h221 n e
  replace hs := z.trans hs
  replace hd := e.trans hd
  replace K := K.step z n (by decide)
  replace h1 := (n 1 (by decide)).trans h1
  replace h212 := (n 212 (by decide)).trans h212
  replace h217 := (n 217 (by decide)).trans h217
  clear h220
  clear z n e
  refine opsL 19 222 (v := .bool true) (by kernel_rfl) (by rw [hs]; decide) ?q567 ?q568
  case q567 => (intro o ho; obtain rfl := Option.some.inj ho; exact Or.inl ⟨wanted_at (b := false) (want := false) rfl (by kernel_rfl) h212, k_pick_yes rfl (ev_tmp h217) (ev_tmp h221)⟩)
  case q568 =>
  intro a z h222 n e
  replace hs := z.trans hs
  replace hd := e.trans hd
  replace K := K.step z n (by decide)
  replace h1 := (n 1 (by decide)).trans h1
  replace h212 := (n 212 (by decide)).trans h212
  clear h217
  clear h221
  clear z n e
  refine opsL 20 223 (v := .bool true) (by kernel_rfl) (by rw [hs]; decide) ?q569 ?q570
  case q569 => (intro o ho; obtain rfl := Option.some.inj ho; exact Or.inl ⟨wanted_at (b := false) (want := false) rfl (by kernel_rfl) h212, k_move rfl (ev_tmp h222)⟩)
  case q570 =>
  intro a z h223 n e
  replace hs := z.trans hs
  replace hd := e.trans hd
  replace K := K.step z n (by decide)
  replace h1 := (n 1 (by decide)).trans h1
  replace h212 := (n 212 (by decide)).trans h212
  clear h222
  clear z n e
  refine opsL 21 224 (v := .pointer (some ⟨b, 5, none⟩)) (by kernel_rfl) (by rw [hs]; decide) ?q571 ?q572
  case q571 => (intro o ho; obtain rfl := Option.some.inj ho; exact Or.inl ⟨wanted_at (b := true) (want := true) rfl (by kernel_rfl) h223, k_field5 rfl (ev_tmp h1)⟩)
  case q572 =>
  intro a z h224 n e
  replace hs := z.trans hs
  replace hd := e.trans hd
  replace K := K.step z n (by decide)
  replace h1 := (n 1 (by decide)).trans h1
  replace h212 := (n 212 (by decide)).trans h212
  replace h223 := (n 223 (by decide)).trans h223
  clear z n e
  refine opsL 22 225 (v := .slice AD D.length cD) (by kernel_rfl) (by rw [hs]; decide) ?q573 ?q574
  case q573 => (intro o ho; obtain rfl := Option.some.inj ho; exact Or.inl ⟨wanted_at (b := true) (want := true) rfl (by kernel_rfl) h223, k_loadL rfl (ev_tmp h224) e5⟩)
  case q574 =>
  intro a z h225 n e
  replace hs := z.trans hs
  replace hd := e.trans hd
  replace K := K.step z n (by decide)
  replace h1 := (n 1 (by decide)).trans h1
  replace h212 := (n 212 (by decide)).trans h212
  replace h223 := (n 223 (by decide)).trans h223
  clear h224
  clear z n e
  refine opsL 23 226 (v := .int .i64 D.length) (by kernel_rfl) (by rw [hs]; decide) ?q575 ?q576
  case q575 => (intro o ho; obtain rfl := Option.some.inj ho; exact Or.inl ⟨wanted_at (b := true) (want := true) rfl (by kernel_rfl) h223, k_lenL rfl (ev_tmp h225)⟩)
  case q576 =>
  intro a z h226 n e
  replace hs := z.trans hs
  replace hd := e.trans hd
  replace K := K.step z n (by decide)
  replace h1 := (n 1 (by decide)).trans h1
  replace h212 := (n 212 (by decide)).trans h212
  replace h223 := (n 223 (by decide)).trans h223
  clear h225
  clear z n e
  refine opsL 24 227 (v := .bool true) (by kernel_rfl) (by rw [hs]; decide) ?q577 ?q578
  case q577 => (intro o ho; obtain rfl := Option.some.inj ho; exact Or.inl ⟨wanted_at (b := true) (want := true) rfl (by kernel_rfl) h223, k_eq rfl (ev_tmp h226) rfl zD⟩)
  case q578 =>
  intro a z h227 n e
  replace hs := z.trans hs
  replace hd := e.trans hd
  replace K := K.step z n (by decide)
  replace h1 := (n 1 (by decide)).trans h1
  replace h212 := (n 212 (by decide)).trans h212
  replace h223 := (n 223 (by decide)).trans h223
  clear h226
  clear z n e
  refine opsL 25 228 (v := .bool true) (by kernel_rfl) (by rw [hs]; decide) ?q579 ?q580
  case q579 => (intro o ho; obtain rfl := Option.some.inj ho; exact Or.inl ⟨wanted_at (b := false) (want := false) rfl (by kernel_rfl) h212, k_pick_yes rfl (ev_tmp h223) (ev_tmp h227)⟩)
  case q580 =>
  intro a z h228 n e
  replace hs := z.trans hs
  replace hd := e.trans hd
  replace K := K.step z n (by decide)
  replace h1 := (n 1 (by decide)).trans h1
  replace h212 := (n 212 (by decide)).trans h212
  clear h223
  clear h227
  clear z n e
  refine opsL 26 229 (v := .bool true) (by kernel_rfl) (by rw [hs]; decide) ?q581 ?q582
  case q581 => (intro o ho; obtain rfl := Option.some.inj ho; exact Or.inl ⟨wanted_at (b := false) (want := false) rfl (by kernel_rfl) h212, k_move rfl (ev_tmp h228)⟩)
  case q582 =>
  intro a z h229 n e
  replace hs := z.trans hs
  replace hd := e.trans hd
  replace K := K.step z n (by decide)
  replace h1 := (n 1 (by decide)).trans h1
  replace h212 := (n 212 (by decide)).trans h212
  clear h228
  clear z n e
  refine opsL 27 230 (v := .pointer (some ⟨b, 6, none⟩)) (by kernel_rfl) (by rw [hs]; decide) ?q583 ?q584
  case q583 => (intro o ho; obtain rfl := Option.some.inj ho; exact Or.inl ⟨wanted_at (b := true) (want := true) rfl (by kernel_rfl) h229, k_field6 rfl (ev_tmp h1)⟩)
  case q584 =>
  intro a z h230 n e
  replace hs := z.trans hs
  replace hd := e.trans hd
  replace K := K.step z n (by decide)
  replace h1 := (n 1 (by decide)).trans h1
  replace h212 := (n 212 (by decide)).trans h212
  replace h229 := (n 229 (by decide)).trans h229
  clear z n e
  refine opsL 28 231 (v := .slice AW W.length cW) (by kernel_rfl) (by rw [hs]; decide) ?q585 ?q586
  case q585 => (intro o ho; obtain rfl := Option.some.inj ho; exact Or.inl ⟨wanted_at (b := true) (want := true) rfl (by kernel_rfl) h229, k_loadW rfl (ev_tmp h230) e6⟩)
  case q586 =>
  intro a z h231 n e
  replace hs := z.trans hs
  replace hd := e.trans hd
  replace K := K.step z n (by decide)
  replace h1 := (n 1 (by decide)).trans h1
  replace h212 := (n 212 (by decide)).trans h212
  replace h229 := (n 229 (by decide)).trans h229
  clear h230
  clear z n e
  refine opsL 29 232 (v := .int .i64 W.length) (by kernel_rfl) (by rw [hs]; decide) ?q587 ?q588
  case q587 => (intro o ho; obtain rfl := Option.some.inj ho; exact Or.inl ⟨wanted_at (b := true) (want := true) rfl (by kernel_rfl) h229, k_lenW rfl (ev_tmp h231)⟩)
  case q588 =>
  intro a z h232 n e
  replace hs := z.trans hs
  replace hd := e.trans hd
  replace K := K.step z n (by decide)
  replace h1 := (n 1 (by decide)).trans h1
  replace h212 := (n 212 (by decide)).trans h212
  replace h229 := (n 229 (by decide)).trans h229
  clear h231
  clear z n e
  refine opsL 30 233 (v := .bool false) (by kernel_rfl) (by rw [hs]; decide) ?q589 ?q590
  case q589 => (intro o ho; obtain rfl := Option.some.inj ho; exact Or.inl ⟨wanted_at (b := true) (want := true) rfl (by kernel_rfl) h229, k_eq rfl (ev_tmp h232) rfl zW⟩)
  case q590 =>
  intro a z h233 n e
  replace hs := z.trans hs
  replace hd := e.trans hd
  replace K := K.step z n (by decide)
  replace h1 := (n 1 (by decide)).trans h1
  replace h212 := (n 212 (by decide)).trans h212
  replace h229 := (n 229 (by decide)).trans h229
  clear h232
  clear z n e
  refine opsL 31 234 (v := .bool false) (by kernel_rfl) (by rw [hs]; decide) ?q591 ?q592
  case q591 => (intro o ho; obtain rfl := Option.some.inj ho; exact Or.inl ⟨wanted_at (b := false) (want := false) rfl (by kernel_rfl) h212, k_pick_yes rfl (ev_tmp h229) (ev_tmp h233)⟩)
  case q592 =>
  intro a z h234 n e
  replace hs := z.trans hs
  replace hd := e.trans hd
  replace K := K.step z n (by decide)
  replace h1 := (n 1 (by decide)).trans h1
  replace h212 := (n 212 (by decide)).trans h212
  clear h229
  clear h233
  clear z n e
  refine opsL 32 235 (v := .bool false) (by kernel_rfl) (by rw [hs]; decide) ?q593 ?q594
  case q593 => (intro o ho; obtain rfl := Option.some.inj ho; exact Or.inl ⟨rfl, k_pick_no rfl (ev_tmp h212) (ev_tmp h234)⟩)
  case q594 =>
  intro a z h235 n e
  replace hs := z.trans hs
  replace hd := e.trans hd
  replace K := K.step z n (by decide)
  replace h1 := (n 1 (by decide)).trans h1
  clear h212
  clear h234
  clear z n e
  exact hR _ K hd h235

set_option maxRecDepth 100000 in
set_option maxHeartbeats 1000000 in
theorem reg32_p00 (a0 : Act) (w : World) (Q : Exit → Act → World → Prop) (b : Nat) (f : Int) (AM AD AW AP : Option Addr) (cM cD cW cP : Nat) (M D : List Int) (W : List (Int × Int)) (P : List Int) (hs0 : a0.tmps.size = 236) (h1 : a0.tmps.getD 1 undef = .pointer (some ⟨b, 0, none⟩))
    (_e0 : w.cell? ⟨b, 0, none⟩ = some (.int .i64 f)) (e4 : w.cell? ⟨b, 4, none⟩ = some (.slice AM M.length cM)) (e5 : w.cell? ⟨b, 5, none⟩ = some (.slice AD D.length cD)) (e6 : w.cell? ⟨b, 6, none⟩ = some (.slice AW W.length cW)) (e7 : w.cell? ⟨b, 7, none⟩ = some (.slice AP P.length cP))
    (gD : decide ((0 : Int) < D.length) = false) (gP : decide ((0 : Int) < P.length) = true) (zM : ((M.length : Int) == 0) = true) (zD : ((D.length : Int) == 0) = true) (zW : ((W.length : Int) == 0) = true)
    (hR : ∀ a' : Act, Keep 203 235 235 a0.tmps a'.tmps → a'.defers = a0.defers → a'.tmps.getD 235 undef = .bool true → Q .normal a' w) :
    (Code.region 32 ops32 false).wp Tryd.prog Q a0 w := by
  have hs := hs0
  have K := Keep.refl 203 235 235 a0.tmps
  have hd : a0.defers = a0.defers := rfl
  conv => arg 2; arg 2; whnf
  refine wp_region (show wpOps _ _ _ [0, 1, 2, 3, 4, 5, 6, 7, 8, 9, 10, 11, 12, 13, 14, 15, 16, 17, 18, 19, 20, 21, 22, 23, 24, 25, 26, 27, 28, 29, 30, 31, 32] _ _ from ?_)
  refine opsL 0 203 (v := .pointer (some ⟨b, 5, none⟩)) (by kernel_rfl) (by rw [hs]; decide) ?q595 ?q596
  case q595 => (intro o ho; obtain rfl := Option.some.inj ho; exact Or.inl ⟨rfl, k_field5 rfl (ev_tmp h1)⟩)
  case q596 =>
  intro a z h203 n e
  replace hs := z.trans hs
  replace hd := e.trans hd
  replace K := K.step z n (by decide)
  replace h1 := (n 1 (by decide)).trans h1
  clear z n e
  refine opsL 1 204 (v := .slice AD D.length cD) (by kernel_rfl) (by rw [hs]; decide) ?q597 ?q598
  case q597 => (intro o ho; obtain rfl := Option.some.inj ho; exact Or.inl ⟨rfl, k_loadL rfl (ev_tmp h203) e5⟩)
  case q598 =>
  intro a z h204 n e
  replace hs := z.trans hs
  replace hd := e.trans hd
  replace K := K.step z n (by decide)
  replace h1 := (n 1 (by decide)).trans h1
  clear h203
  clear z n e
  refine opsL 2 205 (v := .int .i64 D.length) (by kernel_rfl) (by rw [hs]; decide) ?q599 ?q600
  case q599 => (intro o ho; obtain rfl := Option.some.inj ho; exact Or.inl ⟨rfl, k_lenL rfl (ev_tmp h204)⟩)
  case q600 =>
  intro a z h205 n e
  replace hs := z.trans hs
  replace hd := e.trans hd
  replace K := K.step z n (by decide)
  replace h1 := (n 1 (by decide)).trans h1
  clear h204
  clear z n e
  refine opsL 3 206 (v := .bool false) (by kernel_rfl) (by rw [hs]; decide) ?q601 ?q602
  case q601 => (intro o ho; obtain rfl := Option.some.inj ho; exact Or.inl ⟨rfl, k_gt rfl (ev_tmp h205) rfl gD⟩)
  case q602 =>
  intro a z h206 n e
  replace hs := z.trans hs
  replace hd := e.trans hd
  replace K := K.step z n (by decide)
  replace h1 := (n 1 (by decide)).trans h1
  clear h205
  clear z n e
  refine opsL 4 207 (v := .bool false) (by kernel_rfl) (by rw [hs]; decide) ?q603 ?q604
  case q603 => (intro o ho; obtain rfl := Option.some.inj ho; exact Or.inl ⟨rfl, k_move rfl (ev_tmp h206)⟩)
  case q604 =>
  intro a z h207 n e
  replace hs := z.trans hs
  replace hd := e.trans hd
  replace K := K.step z n (by decide)
  replace h1 := (n 1 (by decide)).trans h1
  clear h206
  clear z n e
  refine opsL 5 208 (v := undef) (by kernel_rfl) (by rw [hs]; decide) ?q605 ?q606
  case q605 => (intro o ho; obtain rfl := Option.some.inj ho; exact Or.inr ⟨wanted_at (b := false) (want := true) rfl (by kernel_rfl) h207, rfl⟩)
  case q606 =>
  intro a z h208 n e
  replace hs := z.trans hs
  replace hd := e.trans hd
  replace K := K.step z n (by decide)
  replace h1 := (n 1 (by decide)).trans h1
  replace h207 := (n 207 (by decide)).trans h207
  clear z n e
  refine opsL 6 209 (v := undef) (by kernel_rfl) (by rw [hs]; decide) ?q607 ?q608
  case q607 => (intro o ho; obtain rfl := Option.some.inj ho; exact Or.inr ⟨wanted_at (b := false) (want := true) rfl (by kernel_rfl) h207, rfl⟩)
  case q608 =>
  intro a z h209 n e
  replace hs := z.trans hs
  replace hd := e.trans hd
  replace K := K.step z n (by decide)
  replace h1 := (n 1 (by decide)).trans h1
  replace h207 := (n 207 (by decide)).trans h207
  clear h208
  clear z n e
  refine opsL 7 210 (v := undef) (by kernel_rfl) (by rw [hs]; decide) ?q609 ?q610
  case q609 => (intro o ho; obtain rfl := Option.some.inj ho; exact Or.inr ⟨wanted_at (b := false) (want := true) rfl (by kernel_rfl) h207, rfl⟩)
  case q610 =>
  intro a z h210 n e
  replace hs := z.trans hs
  replace hd := e.trans hd
  replace K := K.step z n (by decide)
  replace h1 := (n 1 (by decide)).trans h1
  replace h207 := (n 207 (by decide)).trans h207
  clear h209
  clear z n e
  refine opsL 8 211 (v := .bool false) (by kernel_rfl) (by rw [hs]; decide) ?q611 ?q612
  case q611 => (intro o ho; obtain rfl := Option.some.inj ho; exact Or.inl ⟨rfl, k_pick_no rfl (ev_tmp h207) rfl⟩)
  case q612 =>
  intro a z h211 n e
  replace hs := z.trans hs
  replace hd := e.trans hd
  replace K := K.step z n (by decide)
  replace h1 := (n 1 (by decide)).trans h1
  clear h207
  clear h210
  clear z n e
  refine opsL 9 212 (v := .bool false) (by kernel_rfl) (by rw [hs]; decide) ?q613 ?q614
  case q613 => (intro o ho; obtain rfl := Option.some.inj ho; exact Or.inl ⟨rfl, k_move rfl (ev_tmp h211)⟩)
  case q614 =>
  intro a z h212 n e
  replace hs := z.trans hs
  replace hd := e.trans hd
  replace K := K.step z n (by decide)
  replace h1 := (n 1 (by decide)).trans h1
  clear h211
  clear z n e
  refine opsL 10 213 (v := .pointer (some ⟨b, 7, none⟩)) (by kernel_rfl) (by rw [hs]; decide) ?q615 ?q616
  case q615 => (intro o ho; obtain rfl := Option.some.inj ho; exact Or.inl ⟨wanted_at (b := false) (want := false) rfl (by kernel_rfl) h212, k_field7 rfl (ev_tmp h1)⟩)
  case q616 =>
  intro a z h213 n e
  replace hs := z.trans hs
  replace hd := e.trans hd
  replace K := K.step z n (by decide)
  replace h1 := (n 1 (by decide)).trans h1
  replace h212 := (n 212 (by decide)).trans h212
  clear z n e
  refine opsL 11 214 (v := .slice AP P.length cP) (by kernel_rfl) (by rw [hs]; decide) ?q617 ?q618
  case q617 => (intro o ho; obtain rfl := Option.some.inj ho; exact Or.inl ⟨wanted_at (b := false) (want := false) rfl (by kernel_rfl) h212, k_loadL rfl (ev_tmp h213) e7⟩)
  case q618 =>
  intro a z h214 n e
  replace hs := z.trans hs
  replace hd := e.trans hd
  replace K := K.step z n (by decide)
  replace h1 := (n 1 (by decide)).trans h1
  replace h212 := (n 212 (by decide)).trans h212
  clear h213
  clear z n e
  refine opsL 12 215 (v := .int .i64 P.length) (by kernel_rfl) (by rw [hs]; decide) ?q619 ?q620
  case q619 => (intro o ho; obtain rfl := Option.some.inj ho; exact Or.inl ⟨wanted_at (b := false) (want := false) rfl (by kernel_rfl) h212, k_lenL rfl (ev_tmp h214)⟩)
  case q620 =>
  intro a z h215 n e
  replace hs := z.trans hs
  replace hd := e.trans hd
  replace K := K.step z n (by decide)
  replace h1 := (n 1 (by decide)).trans h1
  replace h212 := (n 212 (by decide)).trans h212
  clear h214
  clear z n e
  refine opsL 13 216 (v := .bool true) (by kernel_rfl) (by rw [hs]; decide) ?q621 ?q622
  case q621 => (intro o ho; obtain rfl := Option.some.inj ho; exact Or.inl ⟨wanted_at (b := false) (want := false) rfl (by kernel_rfl) h212, k_gt rfl (ev_tmp h215) rfl gP⟩)
  case q622 =>
  intro a z h216 n e
  replace hs := z.trans hs
  replace hd := e.trans hd
  replace K := K.step z n (by decide)
  replace h1 := (n 1 (by decide)).trans h1
  replace h212 := (n 212 (by decide)).trans h212
  clear h215
  clear z n e
  refine opsL 14 217 (v := .bool true) (by kernel_rfl) (by rw [hs]; decide) ?q623 ?q624
  case q623 => (intro o ho; obtain rfl := Option.some.inj ho; exact Or.inl ⟨wanted_at (b := false) (want := false) rfl (by kernel_rfl) h212, k_move rfl (ev_tmp h216)⟩)
  case q624 =>
  intro a z h217 n e
  replace hs := z.trans hs
  replace hd := e.trans hd
  replace K := K.step z n (by decide)
  replace h1 := (n 1 (by decide)).trans h1
  replace h212 := (n 212 (by decide)).trans h212
  clear h216
  clear z n e
  refine opsL 15 218 (v := .pointer (some ⟨b, 4, none⟩)) (by kernel_rfl) (by rw [hs]; decide) ?q625 ?q626
  case q625 => (intro o ho; obtain rfl := Option.some.inj ho; exact Or.inl ⟨wanted_at (b := true) (want := true) rfl (by kernel_rfl) h217, k_field4 rfl (ev_tmp h1)⟩)
  case q626 =>
  intro a z h218 n e
  replace hs := z.trans hs
  replace hd := e.trans hd
  replace K := K.step z n (by decide)
  replace h1 := (n 1 (by decide)).trans h1
  replace h212 := (n 212 (by decide)).trans h212
  replace h217 := (n 217 (by decide)).trans h217
  clear z n e
  refine opsL 16 219 (v := .slice AM M.length cM) (by kernel_rfl) (by rw [hs]; decide) ?q627 ?q628
  case q627 => (intro o ho; obtain rfl := Option.some.inj ho; exact Or.inl ⟨wanted_at (b := true) (want := true) rfl (by kernel_rfl) h217, k_loadL rfl (ev_tmp h218) e4⟩)
  case q628 =>
  intro a z h219 n e
  replace hs := z.trans hs
  replace hd := e.trans hd
  replace K := K.step z n (by decide)
  replace h1 := (n 1 (by decide)).trans h1
  replace h212 := (n 212 (by decide)).trans h212
  replace h217 := (n 217 (by decide)).trans h217
  clear h218
  clear z n e
  refine opsL 17 220 (v := .int .i64 M.length) (by kernel_rfl) (by rw [hs]; decide) ?q629 ?q630
  case q629 => (intro o ho; obtain rfl := Option.some.inj ho; exact Or.inl ⟨wanted_at (b := true) (want := true) rfl (by kernel_rfl) h217, k_lenL rfl (ev_tmp h219)⟩)
  case q630 =>
  intro a z h220 n e
  replace hs := z.trans hs
  replace hd := e.trans hd
  replace K := K.step z n (by decide)
  replace h1 := (n 1 (by decide)).trans h1
  replace h212 := (n 212 (by decide)).trans h212
  replace h217 := (n 217 (by decide)).trans h217
  clear h219
  clear z n e
  refine opsL 18 221 (v := .bool true) (by kernel_rfl) (by rw [hs]; decide) ?q631 ?q632
  case q631 => (intro o ho; obtain rfl := Option.some.inj ho; exact Or.inl ⟨wanted_at (b := true) (want := true) rfl (by kernel_rfl) h217, k_eq rfl (ev_tmp h220) rfl zM⟩)
  case q632 =>
  intro a z h221 n e
  replace hs := z.trans hs
  replace hd := e.trans hd
  replace K := K.step z n (by decide)
  replace h1 := (n 1 (by decide)).trans h1
  replace h212 := (n 212 (by decide)).trans h212
  replace h217 := (n 217 (by decide)).trans h217
  clear h220
  clear z n e
  refine opsL 19 222 (v := .bool true) (by kernel_rfl) (by rw [hs]; decide) ?q633 ?q634
  case q633 => (intro o ho; obtain rfl := Option.some.inj ho; exact Or.inl ⟨wanted_at (b := false) (want := false) rfl (by kernel_rfl) h212, k_pick_yes rfl (ev_tmp h217) (ev_tmp h221)⟩)
  case q634 =>
  intro a z h222 n e
  replace hs := z.trans hs
  replace hd := e.trans hd
  replace K := K.step z n (by decide)
  replace h1 := (n 1 (by decide)).trans h1
  replace h212 := (n 212 (by decide)).trans h212
  clear h217
  clear h221
  clear z n e
  refine opsL 20 223 (v := .bool true) (by kernel_rfl) (by rw [hs]; decide) ?q635 ?q636
  case q635 => (intro o ho; obtain rfl := Option.some.inj ho; exact Or.inl ⟨wanted_at (b := false) (want := false) rfl (by kernel_rfl) h212, k_move rfl (ev_tmp h222)⟩)
  case q636 =>
  intro a z h223 n e
  replace hs := z.trans hs
  replace hd := e.trans hd
  replace K := K.step z n (by decide)
  replace h1 := (n 1 (by decide)).trans h1
  replace h212 := (n 212 (by decide)).trans h212
  clear h222
  clear z n e
  refine opsL 21 224 (v := .pointer (some ⟨b, 5, none⟩)) (by kernel_rfl) (by rw [hs]; decide) ?q637 ?q638
  case q637 => (intro o ho; obtain rfl := Option.some.inj ho; exact Or.inl ⟨wanted_at (b := true) (want := true) rfl (by kernel_rfl) h223, k_field5 rfl (ev_tmp h1)⟩)
  case q638 =>
  intro a z h224 n e
  replace hs := z.trans hs
  replace hd := e.trans hd
  replace K := K.step z n (by decide)
  replace h1 := (n 1 (by decide)).trans h1
  replace h212 := (n 212 (by decide)).trans h212
  replace h223 := (n 223 (by decide)).trans h223
  clear z n e
  refine opsL 22 225 (v := .slice AD D.length cD) (by kernel_rfl) (by rw [hs]; decide) ?q639 ?q640
  case q639 => (intro o ho; obtain rfl := Option.some.inj ho; exact Or.inl ⟨wanted_at (b := true) (want := true) rfl (by kernel_rfl) h223, k_loadL rfl (ev_tmp h224) e5⟩)
  case q640 =>
  intro a z h225 n e
  replace hs := z.trans hs
  replace hd := e.trans hd
  replace K := K.step z n (by decide)
  replace h1 := (n 1 (by decide)).trans h1
  replace h212 := (n 212 (by decide)).trans h212
  replace h223 := (n 223 (by decide)).trans h223
  clear h224
  clear z n e
  refine opsL 23 226 (v := .int .i64 D.length) (by kernel_rfl) (by rw [hs]; decide) ?q641 ?q642
  case q641 => (intro o ho; obtain rfl := Option.some.inj ho; exact Or.inl ⟨wanted_at (b := true) (want := true) rfl (by kernel_rfl) h223, k_lenL rfl (ev_tmp h225)⟩)
  case q642 =>
  intro a z h226 n e
  replace hs := z.trans hs
  replace hd := e.trans hd
  replace K := K.step z n (by decide)
  replace h1 := (n 1 (by decide)).trans h1
  replace h212 := (n 212 (by decide)).trans h212
  replace h223 := (n 223 (by decide)).trans h223
  clear h225
  clear z n e
  refine opsL 24 227 (v := .bool true) (by kernel_rfl) (by rw [hs]; decide) ?q643 ?q644
  case q643 => (intro o ho; obtain rfl := Option.some.inj ho; exact Or.inl ⟨wanted_at (b := true) (want := true) rfl (by kernel_rfl) h223, k_eq rfl (ev_tmp h226) rfl zD⟩)
  case q644 =>
  intro a z h227 n e
  replace hs := z.trans hs
  replace hd := e.trans hd
  replace K := K.step z n (by decide)
  replace h1 := (n 1 (by decide)).trans h1
  replace h212 := (n 212 (by decide)).trans h212
  replace h223 := (n 223 (by decide)).trans h223
  clear h226
  clear z n e
  refine opsL 25 228 (v := .bool true) (by kernel_rfl) (by rw [hs]; decide) ?q645 ?q646
  case q645 => (intro o ho; obtain rfl := Option.some.inj ho; exact Or.inl ⟨wanted_at (b := false) (want := false) rfl (by kernel_rfl) h212, k_pick_yes rfl (ev_tmp h223) (ev_tmp h227)⟩)
  case q646 =>
  intro a z h228 n e
  replace hs := z.trans hs
  replace hd := e.trans hd
  replace K := K.step z n (by decide)
  replace h1 := (n 1 (by decide)).trans h1
  replace h212 := (n 212 (by decide)).trans h212
  clear h223
  clear h227
  clear z n e
  refine opsL 26 229 (v := .bool true) (by kernel_rfl) (by rw [hs]; decide) ?q647 ?q648
  case q647 => (intro o ho; obtain rfl := Option.some.inj ho; exact Or.inl ⟨wanted_at (b := false) (want := false) rfl (by kernel_rfl) h212, k_move rfl (ev_tmp h228)⟩)
  case q648 =>
  intro a z h229 n e
  replace hs := z.trans hs
  replace hd := e.trans hd
  replace K := K.step z n (by decide)
  replace h1 := (n 1 (by decide)).trans h1
  replace h212 := (n 212 (by decide)).trans h212
  clear h228
  clear z n e
  refine opsL 27 230 (v := .pointer (some ⟨b, 6, none⟩)) (by kernel_rfl) (by rw [hs]; decide) ?q649 ?q650
  case q649 => (intro o ho; obtain rfl := Option.some.inj ho; exact Or.inl ⟨wanted_at (b := true) (want := true) rfl (by kernel_rfl) h229, k_field6 rfl (ev_tmp h1)⟩)
  case q650 =>
  intro a z h230 n e
  replace hs := z.trans hs
  replace hd := e.trans hd
  replace K := K.step z n (by decide)
  replace h1 := (n 1 (by decide)).trans h1
  replace h212 := (n 212 (by decide)).trans h212
  replace h229 := (n 229 (by decide)).trans h229
  clear z n e
  refine opsL 28 231 (v := .slice AW W.length cW) (by kernel_rfl) (by rw [hs]; decide) ?q651 ?q652
  case q651 => (intro o ho; obtain rfl := Option.some.inj ho; exact Or.inl ⟨wanted_at (b := true) (want := true) rfl (by kernel_rfl) h229, k_loadW rfl (ev_tmp h230) e6⟩)
  case q652 =>
  intro a z h231 n e
  replace hs := z.trans hs
  replace hd := e.trans hd
  replace K := K.step z n (by decide)
  replace h1 := (n 1 (by decide)).trans h1
  replace h212 := (n 212 (by decide)).trans h212
  replace h229 := (n 229 (by decide)).trans h229
  clear h230
  clear z n e
  refine opsL 29 232 (v := .int .i64 W.length) (by kernel_rfl) (by rw [hs]; decide) ?q653 ?q654
  case q653 => (intro o ho; obtain rfl := Option.some.inj ho; exact Or.inl ⟨wanted_at (b := true) (want := true) rfl (by kernel_rfl) h229, k_lenW rfl (ev_tmp h231)⟩)
  case q654 =>
  intro a z h232 n e
  replace hs := z.trans hs
  replace hd := e.trans hd
  replace K := K.step z n (by decide)
  replace h1 := (n 1 (by decide)).trans h1
  replace h212 := (n 212 (by decide)).trans h212
  replace h229 := (n 229 (by decide)).trans h229
  clear h231
  clear z n e
  refine opsL 30 233 (v := .bool true) (by kernel_rfl) (by rw [hs]; decide) ?q655 ?q656
  case q655 => (intro o ho; obtain rfl := Option.some.inj ho; exact Or.inl ⟨wanted_at (b := true) (want := true) rfl (by kernel_rfl) h229, k_eq rfl (ev_tmp h232) rfl zW⟩)
  case q656 =>
  intro a z h233 n e
  replace hs := z.trans hs
  replace hd := e.trans hd
  replace K := K.step z n (by decide)
  replace h1 := (n 1 (by decide)).trans h1
  replace h212 := (n 212 (by decide)).trans h212
  replace h229 := (n 229 (by decide)).trans h229
  clear h232
  clear z n e
  refine opsL 31 234 (v := .bool true) (by kernel_rfl) (by rw [hs]; decide) ?q657 ?q658
  case q657 => (intro o ho; obtain rfl := Option.some.inj ho; exact Or.inl ⟨wanted_at (b := false) (want := false) rfl (by kernel_rfl) h212, k_pick_yes rfl (ev_tmp h229) (ev_tmp h233)⟩)
  case q658 =>
  intro a z h234 n e
  replace hs := z.trans hs
  replace hd := e.trans hd
  replace K := K.step z n (by decide)
  replace h1 := (n 1 (by decide)).trans h1
  replace h212 := (n 212 (by decide)).trans h212
  clear h229
  clear h233
  clear z n e
  refine opsL 32 235 (v := .bool true) (by kernel_rfl) (by rw [hs]; decide) ?q659 ?q660
  case q659 => (intro o ho; obtain rfl := Option.some.inj ho; exact Or.inl ⟨rfl, k_pick_no rfl (ev_tmp h212) (ev_tmp h234)⟩)
  case q660 =>
  intro a z h235 n e
  replace hs := z.trans hs
  replace hd := e.trans hd
  replace K := K.step z n (by decide)
  replace h1 := (n 1 (by decide)).trans h1
  clear h212
  clear h234
  clear z n e
  exact hR _ K hd h235
end Go.Proofs.YtoldjleojnlhiaaDoor
