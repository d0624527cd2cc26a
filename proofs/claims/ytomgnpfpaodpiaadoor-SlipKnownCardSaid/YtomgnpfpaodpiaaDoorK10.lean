/- The law SlipKnown: its walk, the last part. -/
import Derived.Test.YtomgnpfpaodpiaaDoorK08
import Derived.Test.YtomgnpfpaodpiaaDoorK09
import Derived.Deep.CutRange
import Derived.Deep.CutBlock
set_option linter.unusedVariables false
set_option linter.unusedSimpArgs false
namespace Go.Proofs.YtomgnpfpaodpiaaDoor
open Go Go.RowKit
set_option maxHeartbeats 64000000
def headIs (r : Nat) : Code → Bool
  | .region id _ _ => id == r
  | _ => false
def fromReg (r : Nat) : Code → Option Code
  | .seq a b => if headIs r a then some (.seq a b) else fromReg r b
  | _ => none
noncomputable def tailOf (r : Nat) : Code := ((Tryd.f13.body.bind (fromReg r)).getD .skip)
set_option maxRecDepth 1000000 in
theorem tail41 (w : World) (HL : Hid (Lim w)) (Wd : World) (WdB : Hid (Below w.heap.size w Wd)) (s0 s1 s2 s3 s4 s5 s6 s7 s8 s9 s10 s11 s12 s13 s14 s15 s16 s17 s18 s19 s20 s21 s22 s23 s24 s25 s26 s27 s28 s29 s30 s31 s32 s33 s34 s35 s36 s37 s38 s39 s40 s41 s42 s43 s44 s45 s46 s47 s48 s49 s50 s51 s52 s53 s54 s55 s56 s57 s58 s59 s60 s61 s62 s63 s64 s65 s66 s67 s68 s69 s70 s71 s72 s73 s74 s75 s76 s77 s78 s79 s80 s81 s82 s83 s84 s85 s86 s87 s88 s89 s90 s91 s92 s93 s94 s95 s96 s97 s98 s99 s100 s101 s102 s103 s104 s105 s106 s107 s108 s109 s110 s111 s112 s113 s114 s115 s116 s117 s118 s119 s120 s121 s122 s123 s124 s125 s126 s127 s128 s129 s130 s131 s132 s133 s134 s135 s136 s137 s138 s139 s140 s141 s142 s143 s144 s145 s146 s147 s148 s149 s150 s151 s152 s153 s154 s155 s156 s157 s158 s159 s160 s161 s162 s163 s164 s165 s166 s167 s168 s169 s170 s171 s172 s173 s174 s175 s176 s177 s178 s179 s180 s181 s182 s183 s184 s185 s186 s187 s188 s189 s190 s191 s192 s193 s194 s195 s196 s197 s198 s199 s200 s201 s202 s203 s204 s205 s206 s207 s208 s209 s210 s211 s212 s213 s214 s215 s216 s217 s218 s219 s220 s221 s222 s223 s224 s225 s226 s227 s228 s229 s230 s231 s232 s233 s234 s235 s236 s237 s238 s239 s240 s241 s242 s243 s244 s245 s246 s247 s248 s249 s250 s251 s252 s253 s254 s255 s256 s257 s258 s259 s260 s261 s262 s263 s264 s265 s266 s267 s268 s269 s270 s271 s272 s273 s274 s275 s276 s277 s278 s279 s280 s281 s282 s283 s284 s285 s286 s287 s288 s289 s290 s291 s292 s293 s294 s295 s296 s297 s298 s299 s300 s301 s302 s303 s304 s305 s306 s307 s308 s309 s310 s311 s312 s313 s314 s315 s316 s317 s318 s319 s320 s321 s322 s323 s324 s325 s326 s327 s328 s329 s330 s331 s332 s333 s334 s335 s336 s337 s338 s339 s340 : Value) :
    Code.wp Tryd.prog (tailOf 41) (bodyPost Tryd.prog Tryd.f13 fun e w' => e = .returned (.bool true) ∧ Below w.heap.size w w') ⟨List.toArray (s0 :: s1 :: s2 :: s3 :: s4 :: s5 :: s6 :: s7 :: s8 :: s9 :: s10 :: s11 :: s12 :: s13 :: s14 :: s15 :: s16 :: s17 :: s18 :: s19 :: s20 :: s21 :: s22 :: s23 :: s24 :: s25 :: s26 :: s27 :: s28 :: s29 :: s30 :: s31 :: s32 :: s33 :: s34 :: s35 :: s36 :: s37 :: s38 :: s39 :: s40 :: s41 :: s42 :: s43 :: s44 :: s45 :: s46 :: s47 :: s48 :: s49 :: s50 :: s51 :: s52 :: s53 :: s54 :: s55 :: s56 :: s57 :: s58 :: s59 :: s60 :: s61 :: s62 :: s63 :: s64 :: s65 :: s66 :: s67 :: s68 :: s69 :: s70 :: s71 :: s72 :: s73 :: s74 :: s75 :: s76 :: s77 :: s78 :: s79 :: s80 :: s81 :: s82 :: s83 :: s84 :: s85 :: s86 :: s87 :: s88 :: s89 :: s90 :: s91 :: s92 :: s93 :: s94 :: s95 :: s96 :: s97 :: s98 :: s99 :: s100 :: s101 :: s102 :: s103 :: s104 :: s105 :: s106 :: s107 :: s108 :: s109 :: s110 :: s111 :: s112 :: s113 :: s114 :: s115 :: s116 :: s117 :: s118 :: s119 :: s120 :: s121 :: s122 :: s123 :: s124 :: s125 :: s126 :: s127 :: s128 :: s129 :: s130 :: s131 :: s132 :: s133 :: s134 :: s135 :: s136 :: s137 :: s138 :: s139 :: s140 :: s141 :: s142 :: s143 :: s144 :: s145 :: s146 :: s147 :: s148 :: s149 :: s150 :: s151 :: s152 :: s153 :: s154 :: s155 :: s156 :: s157 :: s158 :: s159 :: s160 :: s161 :: s162 :: s163 :: s164 :: s165 :: s166 :: s167 :: s168 :: s169 :: s170 :: s171 :: s172 :: s173 :: s174 :: s175 :: s176 :: s177 :: s178 :: s179 :: s180 :: s181 :: s182 :: s183 :: s184 :: s185 :: s186 :: s187 :: s188 :: s189 :: s190 :: s191 :: s192 :: s193 :: s194 :: s195 :: s196 :: s197 :: s198 :: s199 :: s200 :: s201 :: s202 :: s203 :: s204 :: s205 :: s206 :: s207 :: s208 :: s209 :: s210 :: s211 :: s212 :: s213 :: s214 :: s215 :: s216 :: s217 :: s218 :: s219 :: s220 :: s221 :: s222 :: s223 :: s224 :: s225 :: s226 :: s227 :: s228 :: s229 :: s230 :: s231 :: s232 :: s233 :: s234 :: s235 :: s236 :: s237 :: s238 :: s239 :: s240 :: s241 :: s242 :: s243 :: s244 :: s245 :: s246 :: s247 :: s248 :: s249 :: s250 :: s251 :: s252 :: s253 :: s254 :: s255 :: s256 :: s257 :: s258 :: s259 :: s260 :: s261 :: s262 :: s263 :: s264 :: s265 :: s266 :: s267 :: s268 :: s269 :: s270 :: s271 :: s272 :: s273 :: s274 :: s275 :: s276 :: s277 :: s278 :: s279 :: s280 :: s281 :: s282 :: s283 :: s284 :: s285 :: s286 :: s287 :: s288 :: s289 :: s290 :: s291 :: s292 :: s293 :: s294 :: s295 :: s296 :: s297 :: s298 :: s299 :: s300 :: s301 :: s302 :: s303 :: s304 :: s305 :: s306 :: s307 :: s308 :: s309 :: s310 :: s311 :: s312 :: s313 :: s314 :: s315 :: s316 :: s317 :: s318 :: s319 :: s320 :: s321 :: s322 :: s323 :: s324 :: s325 :: s326 :: s327 :: s328 :: s329 :: s330 :: s331 :: s332 :: s333 :: s334 :: s335 :: s336 :: s337 :: s338 :: s339 :: s340 :: undef :: undef :: undef :: undef :: undef :: undef :: undef :: undef :: undef :: undef :: undef :: undef :: undef :: undef :: undef :: undef :: undef :: undef :: undef :: undef :: undef :: undef :: undef :: undef :: undef :: undef :: undef :: undef :: undef :: undef :: undef :: undef :: undef :: undef :: undef :: undef :: undef :: undef :: undef :: undef :: undef :: undef :: undef :: undef :: undef :: undef :: undef :: undef :: undef :: undef :: undef :: undef :: undef :: undef :: undef :: undef :: undef :: undef :: undef :: undef :: undef :: undef :: undef :: undef :: undef :: undef :: undef :: undef :: undef :: undef :: undef :: undef :: undef :: undef :: undef :: undef :: undef :: undef :: undef :: undef :: undef :: undef :: undef :: undef :: undef :: undef :: undef :: undef :: undef :: undef :: undef :: undef :: undef :: undef :: undef :: undef :: undef :: undef :: undef :: undef :: undef :: undef :: undef :: undef :: undef :: undef :: undef :: undef :: undef :: undef :: undef :: undef :: undef :: undef :: undef :: undef :: undef :: undef :: undef :: undef :: undef :: undef :: undef :: undef :: undef :: undef :: undef :: undef :: undef :: undef :: undef :: undef :: undef :: undef :: undef :: undef :: undef :: undef :: undef :: undef :: undef :: undef :: undef :: undef :: undef :: undef :: undef :: undef :: undef :: undef :: undef :: undef :: undef :: undef :: undef :: undef :: undef :: undef :: undef :: undef :: undef :: undef :: undef :: undef :: undef :: undef :: undef :: undef :: undef :: undef :: undef :: undef :: undef :: undef :: undef :: undef :: undef :: undef :: undef :: undef :: undef :: undef :: undef :: undef :: undef :: undef :: undef :: undef :: undef :: undef :: undef :: undef :: undef :: undef :: undef :: undef :: undef :: undef :: undef :: undef :: undef :: undef :: undef :: undef :: undef :: undef :: undef :: undef :: undef :: undef :: undef :: undef :: undef :: undef :: undef :: undef :: undef :: undef :: undef :: undef :: undef :: undef :: undef :: undef :: undef :: undef :: undef :: undef :: undef :: undef :: undef :: undef :: undef :: undef :: undef :: undef :: []), []⟩ Wd := by
  conv => arg 2; whnf
  go_upto_region 41 with fail
  go_cut [27, 28] from 341 to 345 (fun s27 s28 wx => s28 = vi 31 ∧ Below Wd.heap.size Wd wx)
  case first =>
    as_aux_lemma =>
      go_wp2_with fail
      refine (floor_any _).mono ?_
      rintro e Ta ⟨a0, a1, a2, a3, a4, a5, a6, rfl, hF, h1⟩
      have TB : Below w.heap.size w Ta := WdB.out.trans (h1.mono WdB.out.size)
      go_wp2_with fail
      refine (x14 a0 a1 a2 a3 a4 a5 a6 _ (HL.out.next TB) hF).mono ?_
      rintro e Tb ⟨x, rfl, h2⟩
      have TS := gr_trans h1 h2
      clear hF h1 h2 TB
      go_wp2_with fail
      go_meet
      exact ⟨rfl, TS⟩
  obtain ⟨rfl, hbc⟩ := hcut
  obtain ⟨E41, rfl⟩ : ∃ T : World, T = wc := ⟨_, rfl⟩
  have E41B := Lib.hid (WdB.out.trans (hbc.mono WdB.out.size))
  clear hbc WdB
  go_upto_region 42 with fail
  go_cut [29, 30] from 346 to 350 (fun s29 s30 wx => s30 = vi 31 ∧ Below E41.heap.size E41 wx)
  case first =>
    as_aux_lemma =>
      go_wp2_with fail
      refine (floor_any _).mono ?_
      rintro e Ta ⟨a0, a1, a2, a3, a4, a5, a6, rfl, hF, h1⟩
      have TB : Below w.heap.size w Ta := E41B.out.trans (h1.mono E41B.out.size)
      go_wp2_with fail
      refine (x22 a0 a1 a2 a3 a4 a5 a6 _ (HL.out.next TB) hF).mono ?_
      rintro e Tb ⟨x, rfl, h2⟩
      have TS := gr_trans h1 h2
      clear hF h1 h2 TB
      go_wp2_with fail
      go_meet
      exact ⟨rfl, TS⟩
  obtain ⟨rfl, hbc⟩ := hcut
  obtain ⟨E42, rfl⟩ : ∃ T : World, T = wc := ⟨_, rfl⟩
  have E42B := Lib.hid (E41B.out.trans (hbc.mono E41B.out.size))
  clear hbc E41B
  go_upto_region 43 with fail
  go_cut [31, 32] from 351 to 355 (fun s31 s32 wx => s32 = vi 31 ∧ Below E42.heap.size E42 wx)
  case first =>
    as_aux_lemma =>
      go_wp2_with fail
      refine (floor_any _).mono ?_
      rintro e Ta ⟨a0, a1, a2, a3, a4, a5, a6, rfl, hF, h1⟩
      have TB : Below w.heap.size w Ta := E42B.out.trans (h1.mono E42B.out.size)
      go_wp2_with fail
      refine (x18 a0 a1 a2 a3 a4 a5 a6 _ (HL.out.next TB) hF).mono ?_
      rintro e Tb ⟨x, rfl, h2⟩
      have TS := gr_trans h1 h2
      clear hF h1 h2 TB
      go_wp2_with fail
      go_meet
      exact ⟨rfl, TS⟩
  obtain ⟨rfl, hbc⟩ := hcut
  obtain ⟨E43, rfl⟩ : ∃ T : World, T = wc := ⟨_, rfl⟩
  have E43B := Lib.hid (E42B.out.trans (hbc.mono E42B.out.size))
  clear hbc E42B
  go_upto_region 44 with fail
  go_cut [33, 34] from 356 to 360 (fun s33 s34 wx => s34 = vi 31 ∧ Below E43.heap.size E43 wx)
  case first =>
    as_aux_lemma =>
      go_wp2_with fail
      refine (floor_any _).mono ?_
      rintro e Ta ⟨a0, a1, a2, a3, a4, a5, a6, rfl, hF, h1⟩
      have TB : Below w.heap.size w Ta := E43B.out.trans (h1.mono E43B.out.size)
      go_wp2_with fail
      refine (x20 a0 a1 a2 a3 a4 a5 a6 _ (HL.out.next TB) hF).mono ?_
      rintro e Tb ⟨x, y, rfl, h2⟩
      have TS := gr_trans h1 h2
      clear hF h1 h2 TB
      go_wp2_with fail
      go_meet
      exact ⟨rfl, gr_trans TS (below1 Tb _)⟩
  obtain ⟨rfl, hbc⟩ := hcut
  obtain ⟨E44, rfl⟩ : ∃ T : World, T = wc := ⟨_, rfl⟩
  have E44B := Lib.hid (E43B.out.trans (hbc.mono E43B.out.size))
  clear hbc E43B
  go_upto_region 45 with fail
  go_cut [35, 36] from 361 to 365 (fun s35 s36 wx => s36 = vi 31 ∧ Below E44.heap.size E44 wx)
  case first =>
    as_aux_lemma =>
      go_wp2_with fail
      refine (floor_any _).mono ?_
      rintro e Ta ⟨a0, a1, a2, a3, a4, a5, a6, rfl, hF, h1⟩
      have TB : Below w.heap.size w Ta := E44B.out.trans (h1.mono E44B.out.size)
      go_wp2_with fail
      refine (x30a a0 a1 a2 a3 a4 a5 a6 _ (HL.out.next TB) hF).mono ?_
      rintro e Tb ⟨x, rfl, h2⟩
      have TS := gr_trans h1 h2
      clear hF h1 h2 TB
      go_wp2_with fail
      go_meet
      exact ⟨rfl, TS⟩
  obtain ⟨rfl, hbc⟩ := hcut
  obtain ⟨E45, rfl⟩ : ∃ T : World, T = wc := ⟨_, rfl⟩
  have E45B := Lib.hid (E44B.out.trans (hbc.mono E44B.out.size))
  clear hbc E44B
  go_upto_region 46 with fail
  go_cut [37, 38] from 366 to 370 (fun s37 s38 wx => s38 = vi 31 ∧ Below E45.heap.size E45 wx)
  case first =>
    as_aux_lemma =>
      go_wp2_with fail
      refine (floor_any _).mono ?_
      rintro e Ta ⟨a0, a1, a2, a3, a4, a5, a6, rfl, hF, h1⟩
      have TB : Below w.heap.size w Ta := E45B.out.trans (h1.mono E45B.out.size)
      go_wp2_with fail
      refine (x30b a0 a1 a2 a3 a4 a5 a6 _ (HL.out.next TB) hF).mono ?_
      rintro e Tb ⟨x, rfl, h2⟩
      have TS := gr_trans h1 h2
      clear hF h1 h2 TB
      go_wp2_with fail
      go_meet
      exact ⟨rfl, TS⟩
  obtain ⟨rfl, hbc⟩ := hcut
  obtain ⟨E46, rfl⟩ : ∃ T : World, T = wc := ⟨_, rfl⟩
  have E46B := Lib.hid (E45B.out.trans (hbc.mono E45B.out.size))
  clear hbc E45B
  go_upto_region 47 with fail
  go_cut [39, 40] from 371 to 375 (fun s39 s40 wx => s40 = vi 31 ∧ Below E46.heap.size E46 wx)
  case first =>
    as_aux_lemma =>
      go_wp2_with fail
      refine (floor_any _).mono ?_
      rintro e Ta ⟨a0, a1, a2, a3, a4, a5, a6, rfl, hF, h1⟩
      have TB : Below w.heap.size w Ta := E46B.out.trans (h1.mono E46B.out.size)
      go_wp2_with fail
      refine (x33 a0 a1 a2 a3 a4 a5 a6 _ (HL.out.next TB) hF).mono ?_
      rintro e Tb ⟨x, rfl, h2⟩
      have TS := gr_trans h1 h2
      clear hF h1 h2 TB
      go_wp2_with fail
      go_meet
      exact ⟨rfl, TS⟩
  obtain ⟨rfl, hbc⟩ := hcut
  obtain ⟨E47, rfl⟩ : ∃ T : World, T = wc := ⟨_, rfl⟩
  have E47B := Lib.hid (E46B.out.trans (hbc.mono E46B.out.size))
  clear hbc E46B
  go_upto_region 48 with fail
  go_cut [41] from 376 to 377 (fun s41 wx => ∃ (f : Floor) (b : Nat), s41 = .pointer (pt b) ∧ Never f ∧ BoxF wx b f ∧ Below E47.heap.size E47 wx)
  case first =>
    as_aux_lemma =>
      go_wp2_with fail
      refine (floor_any _).mono ?_
      rintro e Ta ⟨a0, a1, a2, a3, a4, a5, a6, rfl, hF, h1⟩
      have TB : Below w.heap.size w Ta := E47B.out.trans (h1.mono E47B.out.size)
      go_wp2_with fail
      refine (x48N a0 a1 a2 a3 a4 a5 a6 _ hF).mono ?_
      rintro e Tb ⟨f, rfl, hN, hG, h2⟩
      have TS := gr_trans h1 h2
      have HGG := Lib.hid hG
      have HNN := Lib.hid hN
      clear hF h1 h2 TB hG hN
      go_wp2_with fail
      go_meet
      exact ⟨f, Tb.heap.size, rfl, HNN.out, BoxF.new HGG.out, gr_trans TS (below1 Tb _)⟩
  obtain ⟨f48, b48, rfl, hN, hX, hbc⟩ := hcut
  obtain ⟨E48, rfl⟩ : ∃ T : World, T = wc := ⟨_, rfl⟩
  have HN48 := Lib.hid hN
  have HX48 := Lib.hid hX
  have E48B := Lib.hid (E47B.out.trans (hbc.mono E47B.out.size))
  clear hbc hN hX E47B
  go_upto_region 49 with fail
  go_cut [42, 43] from 378 to 382 (fun s42 s43 wx => s43 = vi 4 ∧ Below E48.heap.size E48 wx)
  case first =>
    as_aux_lemma =>
      obtain ⟨⟨k0, k1, k2⟩, ⟨k3, k4, k5⟩, kz⟩ := HX48.out.cells
      go_wp2_with fail
      refine (x28N HN48.out _ (HL.out.next E48B.out) HX48.out.fl).mono ?_
      rintro e Tb ⟨x, rfl, h2⟩
      clear k0 k1 k2 k3 k4 k5 kz
      go_wp2_with fail
      go_meet
      exact ⟨rfl, h2⟩
  obtain ⟨rfl, hbc⟩ := hcut
  obtain ⟨E49, rfl⟩ : ∃ T : World, T = wc := ⟨_, rfl⟩
  replace HX48 := Lib.hid (HX48.out.keep hbc)
  have E49B := Lib.hid (E48B.out.trans (hbc.mono E48B.out.size))
  clear hbc E48B
  go_upto_region 50 with fail
  go_cut [44, 45] from 383 to 387 (fun s44 s45 wx => s45 = vi 4 ∧ Below E49.heap.size E49 wx)
  case first =>
    as_aux_lemma =>
      obtain ⟨⟨k0, k1, k2⟩, ⟨k3, k4, k5⟩, kz⟩ := HX48.out.cells
      go_wp2_with fail
      refine (x33N HN48.out _ (HL.out.next E49B.out) HX48.out.fl).mono ?_
      rintro e Tb ⟨x, rfl, h2⟩
      clear k0 k1 k2 k3 k4 k5 kz
      go_wp2_with fail
      go_meet
      exact ⟨rfl, h2⟩
  obtain ⟨rfl, hbc⟩ := hcut
  obtain ⟨E50, rfl⟩ : ∃ T : World, T = wc := ⟨_, rfl⟩
  replace HX48 := Lib.hid (HX48.out.keep hbc)
  have E50B := Lib.hid (E49B.out.trans (hbc.mono E49B.out.size))
  clear hbc E49B
  go_upto_region 53 with fail
  go_cut [46, 28] from 422 to 426 (fun s46 s28 wx => s46 = vi 100 ∧ s28 = vi 0 ∧ Below E50.heap.size E50 wx)
  case first =>
    as_aux_lemma =>
      go_wp2_with fail
      refine (floor_any _).mono ?_
      rintro e Ta ⟨a0, a1, a2, a3, a4, a5, a6, rfl, hF, h1⟩
      have TB : Below w.heap.size w Ta := E50B.out.trans (h1.mono E50B.out.size)
      go_wp2_with fail
      refine (y18 a0 a1 a2 a3 a4 a5 a6 _ (HL.out.next TB) hF).mono ?_
      rintro e Tb ⟨rfl, h2⟩
      have TS := gr_trans h1 h2
      clear hF h1 h2 TB
      go_wp2_with fail
      go_meet
      exact ⟨rfl, rfl, TS⟩
  obtain ⟨rfl, rfl, hbc⟩ := hcut
  obtain ⟨E53, rfl⟩ : ∃ T : World, T = wc := ⟨_, rfl⟩
  replace HX48 := Lib.hid (HX48.out.keep hbc)
  have E53B := Lib.hid (E50B.out.trans (hbc.mono E50B.out.size))
  clear hbc E50B
  go_upto_region 54 with fail
  go_cut [47, 30] from 427 to 431 (fun s47 s30 wx => ∃ b : Nat, s47 = .pointer (pt b) ∧ s30 = vi 0 ∧ CellsBox wx b 24 [vi 225, vi 402] ∧ Below E53.heap.size E53 wx)
  case first =>
    as_aux_lemma =>
      go_wp2_with fail
      refine (floor_any _).mono ?_
      rintro e Ta ⟨a0, a1, a2, a3, a4, a5, a6, rfl, hF, h1⟩
      have TB : Below w.heap.size w Ta := E53B.out.trans (h1.mono E53B.out.size)
      go_wp2_with fail
      refine (y20 a0 a1 a2 a3 a4 a5 a6 _ (HL.out.next TB) hF).mono ?_
      rintro e Tb ⟨rfl, h2⟩
      have TS := gr_trans h1 h2
      clear hF h1 h2 TB
      go_wp2_with fail
      go_meet
      exact ⟨_, rfl, rfl, CellsBox.new Tb 24 [vi 225, vi 402], gr_trans TS (below1 Tb _)⟩
  obtain ⟨b54, rfl, rfl, hn54, hbc⟩ := hcut
  obtain ⟨E54, rfl⟩ : ∃ T : World, T = wc := ⟨_, rfl⟩
  replace HX48 := Lib.hid (HX48.out.keep hbc)
  have HP54 := Lib.hid hn54
  clear hn54
  have E54B := Lib.hid (E53B.out.trans (hbc.mono E53B.out.size))
  clear hbc E53B
  go_upto_region 55 with fail
  go_cut [48, 32] from 432 to 436 (fun s48 s32 wx => ∃ (A : Option Addr) (ts : List STour), s48 = .slice A ts.length ts.length ∧ s32 = vi 0 ∧ ToursAt wx wx.heap.size A ts.length ts ∧ ts.map STour.lines = tvL ∧ Below E54.heap.size E54 wx)
  case first =>
    as_aux_lemma =>
      go_wp2_with fail
      refine (floor_any _).mono ?_
      rintro e Ta ⟨a0, a1, a2, a3, a4, a5, a6, rfl, hF, h1⟩
      have TB : Below w.heap.size w Ta := E54B.out.trans (h1.mono E54B.out.size)
      go_wp2_with fail
      refine (y22N a0 a1 a2 a3 a4 a5 a6 _ (HL.out.next TB) hF).mono ?_
      rintro e Tb ⟨A, ts, rfl, hT, he, h2⟩
      have TS := gr_trans h1 h2
      clear hF h1 h2 TB
      go_wp2_with fail
      go_meet
      exact ⟨A, ts, rfl, rfl, hT, he, TS⟩
  obtain ⟨A55, t55, rfl, rfl, hn55, e55, hbc⟩ := hcut
  obtain ⟨E55, rfl⟩ : ∃ T : World, T = wc := ⟨_, rfl⟩
  replace HX48 := Lib.hid (HX48.out.keep hbc)
  replace HP54 := Lib.hid (HP54.out.keep hbc)
  have HT55 := Lib.hid hn55
  clear hn55
  have E55B := Lib.hid (E54B.out.trans (hbc.mono E54B.out.size))
  clear hbc E54B
  have HE55 := Lib.hid e55
  clear e55
  go_upto_region 56 with fail
  go_cut [49, 34] from 437 to 441 (fun s49 s34 wx => ∃ A : Option Addr, s49 = .slice A 0 0 ∧ s34 = vi 0 ∧ Below E55.heap.size E55 wx)
  case first =>
    as_aux_lemma =>
      go_wp2_with fail
      refine (floor_any _).mono ?_
      rintro e Ta ⟨a0, a1, a2, a3, a4, a5, a6, rfl, hF, h1⟩
      have TB : Below w.heap.size w Ta := E55B.out.trans (h1.mono E55B.out.size)
      go_wp2_with fail
      refine (y30 a0 a1 a2 a3 a4 a5 a6 _ (HL.out.next TB) hF).mono ?_
      rintro e Tb ⟨A, rfl, h2⟩
      have TS := gr_trans h1 h2
      clear hF h1 h2 TB
      go_wp2_with fail
      go_meet
      exact ⟨A, rfl, rfl, TS⟩
  obtain ⟨A56, rfl, rfl, hbc⟩ := hcut
  obtain ⟨E56, rfl⟩ : ∃ T : World, T = wc := ⟨_, rfl⟩
  replace HX48 := Lib.hid (HX48.out.keep hbc)
  replace HP54 := Lib.hid (HP54.out.keep hbc)
  replace HT55 := Lib.hid (HT55.out.to hbc)
  have E56B := Lib.hid (E55B.out.trans (hbc.mono E55B.out.size))
  clear hbc E55B
  go_upto_region 57 with fail
  go_cut [50, 36] from 442 to 446 (fun s50 s36 wx => s50 = vi 140 ∧ s36 = vi 0 ∧ Below E56.heap.size E56 wx)
  case first =>
    as_aux_lemma =>
      go_wp2_with fail
      refine (floor_any _).mono ?_
      rintro e Ta ⟨a0, a1, a2, a3, a4, a5, a6, rfl, hF, h1⟩
      have TB : Below w.heap.size w Ta := E56B.out.trans (h1.mono E56B.out.size)
      go_wp2_with fail
      refine (y33 a0 a1 a2 a3 a4 a5 a6 _ (HL.out.next TB) hF).mono ?_
      rintro e Tb ⟨rfl, h2⟩
      have TS := gr_trans h1 h2
      clear hF h1 h2 TB
      go_wp2_with fail
      go_meet
      exact ⟨rfl, rfl, TS⟩
  obtain ⟨rfl, rfl, hbc⟩ := hcut
  obtain ⟨E57, rfl⟩ : ∃ T : World, T = wc := ⟨_, rfl⟩
  replace HX48 := Lib.hid (HX48.out.keep hbc)
  replace HP54 := Lib.hid (HP54.out.keep hbc)
  replace HT55 := Lib.hid (HT55.out.to hbc)
  have E57B := Lib.hid (E56B.out.trans (hbc.mono E56B.out.size))
  clear hbc E56B
  go_upto_region 58 with fail
  go_cut [51, 38] from 447 to 451 (fun s51 s38 wx => ∃ B : Option Addr, s51 = .slice B 1 1 ∧ s38 = vi 0 ∧ IntsAt wx wx.heap.size B 1 [2] ∧ Below E57.heap.size E57 wx)
  case first =>
    as_aux_lemma =>
      obtain ⟨⟨k0, k1, k2⟩, ⟨k3, k4, k5⟩, kz⟩ := HX48.out.cells
      go_wp2_with fail
      refine (x30N HN48.out _ (HL.out.next E57B.out) HX48.out.fl).mono ?_
      rintro e Tb ⟨B, rfl, hI, h2⟩
      clear k0 k1 k2 k3 k4 k5 kz
      go_wp2_with fail
      go_meet
      exact ⟨B, rfl, rfl, hI, h2⟩
  obtain ⟨B58, rfl, rfl, hn58, hbc⟩ := hcut
  obtain ⟨E58, rfl⟩ : ∃ T : World, T = wc := ⟨_, rfl⟩
  replace HX48 := Lib.hid (HX48.out.keep hbc)
  replace HP54 := Lib.hid (HP54.out.keep hbc)
  replace HT55 := Lib.hid (HT55.out.to hbc)
  have HI58 := Lib.hid hn58
  clear hn58
  have E58B := Lib.hid (E57B.out.trans (hbc.mono E57B.out.size))
  clear hbc E57B
  go_upto_region 59 with fail
  go_cut [52, 40] from 452 to 459 (fun s52 s40 wx => ∃ R : Option Addr, s52 = .slice R 4 4 ∧ s40 = vi 0 ∧ RowsAt wx wx.heap.size 2 R 4 ([(460, 842), (320, 590), (250, 450), (225, 402)].map spanC) ∧ Below E58.heap.size E58 wx)
  case first =>
    as_aux_lemma =>
      go_wp2_with fail
      refine (floor_any _).mono ?_
      rintro e Ta ⟨a0, a1, a2, a3, a4, a5, a6, rfl, hF, h1⟩
      have TB : Below w.heap.size w Ta := E58B.out.trans (h1.mono E58B.out.size)
      go_wp2_with fail
      obtain ⟨V3, hV3⟩ : ∃ V, V = ((Ta.alloc (.cells #[vi 3, vi 2, vi 1, vi 0] 3)).alloc (.cells #[] 3)).alloc (.cells #[.slice (pt Ta.heap.size) 4 4, .slice (pt (Ta.heap.size + 1)) 0 0] 22) := ⟨_, rfl⟩
      rw [← hV3]
      have n0 : CellsBox V3 Ta.heap.size 3 [vi 3, vi 2, vi 1, vi 0] := by rw [hV3]; exact ((CellsBox.new Ta 3 [vi 3, vi 2, vi 1, vi 0]).alloc _).alloc _
      have n1 : CellsBox V3 (Ta.heap.size + 1) 3 [] := by
        have h := CellsBox.new (Ta.alloc (.cells #[vi 3, vi 2, vi 1, vi 0] 3)) 3 []
        simp only [World.size_alloc] at h
        rw [hV3]; exact h.alloc _
      have n2 : CellsBox V3 (Ta.heap.size + 1 + 1) 22 [.slice (pt Ta.heap.size) 4 4, .slice (pt (Ta.heap.size + 1)) 0 0] := by
        have h := CellsBox.new ((Ta.alloc (.cells #[vi 3, vi 2, vi 1, vi 0] 3)).alloc (.cells #[] 3)) 22 [.slice (pt Ta.heap.size) 4 4, .slice (pt (Ta.heap.size + 1)) 0 0]
        simp only [World.size_alloc] at h
        rw [hV3]; exact h
      have hr : RosterAt V3 V3.heap.size (pt (Ta.heap.size + 1 + 1)) 2 [⟨pt Ta.heap.size, 4, [3, 2, 1, 0]⟩, ⟨pt (Ta.heap.size + 1), 0, []⟩] := by
        refine roster_of (ts := [⟨pt Ta.heap.size, 4, [3, 2, 1, 0]⟩, ⟨pt (Ta.heap.size + 1), 0, []⟩]) n2 rfl (by simp) fun t ht => ?_
        simp only [List.mem_cons, List.not_mem_nil, or_false] at ht
        rcases ht with rfl | rfl
        · exact ints_from (l := [3, 2, 1, 0]) n0 rfl (by simp)
        · exact ints_from (l := []) n1 rfl (by simp)
      have hbV : Below Ta.heap.size Ta V3 := by rw [hV3]; exact gr_trans (gr_trans (below1 Ta _) (below1 _ _)) (below1 _ _)
      replace hF := hF.to hbV
      replace h1 := gr_trans h1 hbV
      replace TB : Below w.heap.size w V3 := TB.trans (hbV.mono TB.size)
      clear hV3 n0 n1 n2 hbV
      refine (y25 a0 a1 a2 a3 a4 a5 a6 _ _ _ _ (HL.out.next TB) hF hr).mono ?_
      rintro e Tb ⟨R, rfl, hR, h2⟩
      have TS := gr_trans h1 h2
      clear hF h1 h2 TB
      go_wp2_with fail
      go_meet
      exact ⟨R, rfl, rfl, hR, TS⟩
  obtain ⟨R59, rfl, rfl, hn59, hbc⟩ := hcut
  obtain ⟨E59, rfl⟩ : ∃ T : World, T = wc := ⟨_, rfl⟩
  replace HP54 := Lib.hid (HP54.out.keep hbc)
  replace HT55 := Lib.hid (HT55.out.to hbc)
  replace HI58 := Lib.hid (HI58.out.to hbc)
  have HR59 := Lib.hid hn59
  clear hn59
  have E59B := Lib.hid (E58B.out.trans (hbc.mono E58B.out.size))
  clear hbc E58B
  go_upto_region 60 with fail
  go_cut [53] from 460 to 462 (fun s53 wx => ∃ (f : Floor) (b : Nat), s53 = .pointer (pt b) ∧ Nobody f ∧ BoxF wx b f ∧ Below E59.heap.size E59 wx)
  case first =>
    as_aux_lemma =>
      go_wp2_with fail
      refine (floor_any _).mono ?_
      rintro e Ta ⟨a0, a1, a2, a3, a4, a5, a6, rfl, hF, h1⟩
      have TB : Below w.heap.size w Ta := E59B.out.trans (h1.mono E59B.out.size)
      go_wp2_with fail
      obtain ⟨V1, hV1⟩ : ∃ V, V = Ta.alloc (.cells #[vi 0, vi 1, vi 2, vi 3] 3) := ⟨_, rfl⟩
      rw [← hV1]
      have n0 : CellsBox V1 Ta.heap.size 3 [vi 0, vi 1, vi 2, vi 3] := by rw [hV1]; exact CellsBox.new Ta 3 [vi 0, vi 1, vi 2, vi 3]
      have hI : IntsAt V1 V1.heap.size (pt Ta.heap.size) 4 [0, 1, 2, 3] := ints_from (l := [0, 1, 2, 3]) n0 rfl (by simp)
      have hbV : Below Ta.heap.size Ta V1 := by rw [hV1]; exact below1 Ta _
      replace hF := hF.to hbV
      replace h1 := gr_trans h1 hbV
      replace TB : Below w.heap.size w V1 := TB.trans (hbV.mono TB.size)
      clear hV1 n0 hbV
      refine (y46N a0 a1 a2 a3 a4 a5 a6 _ _ hF hI).mono ?_
      rintro e Tb ⟨f, rfl, hN, hG, h2⟩
      have TS := gr_trans h1 h2
      have HGG := Lib.hid hG
      have HNN := Lib.hid hN
      clear hF h1 h2 TB hG hN
      go_wp2_with fail
      go_meet
      exact ⟨f, Tb.heap.size, rfl, HNN.out, BoxF.new HGG.out, gr_trans TS (below1 Tb _)⟩
  obtain ⟨f60, b60, rfl, hN, hX, hbc⟩ := hcut
  obtain ⟨E60, rfl⟩ : ∃ T : World, T = wc := ⟨_, rfl⟩
  have HN60 := Lib.hid hN
  have HX60 := Lib.hid hX
  have E60B := Lib.hid (E59B.out.trans (hbc.mono E59B.out.size))
  replace HP54 := Lib.hid (HP54.out.keep hbc)
  replace HT55 := Lib.hid (HT55.out.to hbc)
  replace HI58 := Lib.hid (HI58.out.to hbc)
  replace HR59 := Lib.hid (HR59.out.to hbc)
  clear hbc hN hX E59B
  go_upto_region 61 with fail
  go_cut [54, 43] from 463 to 467 (fun s54 s43 wx => ∃ (B C : Option Addr) (c : Nat), s54 = .slice B 1 1 ∧ s43 = vi 0 ∧ RosterAt wx wx.heap.size B 1 [⟨C, c, []⟩] ∧ Below E60.heap.size E60 wx)
  case first =>
    as_aux_lemma =>
      obtain ⟨⟨k0, k1, k2⟩, ⟨k3, k4, k5⟩, kz⟩ := HX60.out.cells
      go_wp2_with fail
      refine (y28N HN60.out _ (HL.out.next E60B.out) HX60.out.fl).mono ?_
      rintro e Tb ⟨B, C, c, rfl, hR, h2⟩
      clear k0 k1 k2 k3 k4 k5 kz
      go_wp2_with fail
      go_meet
      exact ⟨B, C, c, rfl, rfl, hR, h2⟩
  obtain ⟨B61, C61, c61, rfl, rfl, hn61, hbc⟩ := hcut
  obtain ⟨E61, rfl⟩ : ∃ T : World, T = wc := ⟨_, rfl⟩
  replace HP54 := Lib.hid (HP54.out.keep hbc)
  replace HT55 := Lib.hid (HT55.out.to hbc)
  replace HI58 := Lib.hid (HI58.out.to hbc)
  replace HR59 := Lib.hid (HR59.out.to hbc)
  replace HX60 := Lib.hid (HX60.out.keep hbc)
  have HR61 := Lib.hid hn61
  clear hn61
  have E61B := Lib.hid (E60B.out.trans (hbc.mono E60B.out.size))
  clear hbc E60B
  go_upto_region 62 with fail
  go_cut [55, 45] from 468 to 474 (fun s55 s45 wx => ∃ R : Option Addr, s55 = .slice R 0 0 ∧ s45 = vi 0 ∧ Below E61.heap.size E61 wx)
  case first =>
    as_aux_lemma =>
      obtain ⟨⟨k0, k1, k2⟩, ⟨k3, k4, k5⟩, kz⟩ := HX60.out.cells
      go_wp2_with fail
      obtain ⟨V2, hV2⟩ : ∃ V, V = (E61.alloc (.cells #[] 3)).alloc (.cells #[.slice (pt E61.heap.size) 0 0] 22) := ⟨_, rfl⟩
      rw [← hV2]
      have n0 : CellsBox V2 E61.heap.size 3 [] := by rw [hV2]; exact (CellsBox.new E61 3 []).alloc _
      have n1 : CellsBox V2 (E61.heap.size + 1) 22 [.slice (pt E61.heap.size) 0 0] := by
        have h := CellsBox.new (E61.alloc (.cells #[] 3)) 22 [.slice (pt E61.heap.size) 0 0]
        simp only [World.size_alloc] at h
        rw [hV2]; exact h
      have hr : RosterAt V2 V2.heap.size (pt (E61.heap.size + 1)) 1 [⟨pt E61.heap.size, 0, []⟩] := by
        refine roster_of (ts := [⟨pt E61.heap.size, 0, []⟩]) n1 rfl (by simp) fun t ht => ?_
        simp only [List.mem_cons, List.not_mem_nil, or_false] at ht
        subst ht
        exact ints_from (l := []) n0 rfl (by simp)
      have hbV : Below E61.heap.size E61 V2 := by rw [hV2]; exact gr_trans (below1 E61 _) (below1 _ _)
      have TB : Below w.heap.size w V2 := E61B.out.trans (hbV.mono E61B.out.size)
      have HX := HX60.out.keep hbV
      clear hV2 n0 n1
      refine (y25N HN60.out _ _ _ (HL.out.next TB) HX.fl hr).mono ?_
      rintro e Tb ⟨R, rfl, h2⟩
      clear k0 k1 k2 k3 k4 k5 kz
      go_wp2_with fail
      go_meet
      exact ⟨R, rfl, rfl, gr_trans hbV h2⟩
  obtain ⟨R62, rfl, rfl, hbc⟩ := hcut
  obtain ⟨E62, rfl⟩ : ∃ T : World, T = wc := ⟨_, rfl⟩
  replace HP54 := Lib.hid (HP54.out.keep hbc)
  replace HT55 := Lib.hid (HT55.out.to hbc)
  replace HI58 := Lib.hid (HI58.out.to hbc)
  replace HR59 := Lib.hid (HR59.out.to hbc)
  replace HX60 := Lib.hid (HX60.out.keep hbc)
  replace HR61 := Lib.hid (HR61.out.to hbc)
  have E62B := Lib.hid (E61B.out.trans (hbc.mono E61B.out.size))
  clear hbc E61B
  go_upto_region 63 with fail
  go_cut [56, 57, 58] from 475 to 481 (fun s56 s57 s58 wx => ∃ R : Option Addr, s56 = .slice R 3 3 ∧ s57 = vi 100 ∧ s58 = .bool true ∧ Below E62.heap.size E62 wx)
  case first =>
    as_aux_lemma =>
      go_wp2_with fail
      refine (floor_any _).mono ?_
      rintro e Ta ⟨a0, a1, a2, a3, a4, a5, a6, rfl, hF, h1⟩
      have TB : Below w.heap.size w Ta := E62B.out.trans (h1.mono E62B.out.size)
      go_wp2_with fail
      refine (y37N a0 a1 a2 a3 a4 a5 a6 _ t55 HE55.out _ hF (HT55.out.to (gr_trans (Below.refl E62.heap.size E62) h1))).mono ?_
      rintro e Tb ⟨R, rfl, h2⟩
      have TS := gr_trans h1 h2
      clear hF h1 h2 TB
      go_wp2_with fail
      go_meet
      exact ⟨R, rfl, rfl, rfl, TS⟩
  obtain ⟨R63, rfl, rfl, rfl, hbc⟩ := hcut
  obtain ⟨E63, rfl⟩ : ∃ T : World, T = wc := ⟨_, rfl⟩
  replace HP54 := Lib.hid (HP54.out.keep hbc)
  replace HT55 := Lib.hid (HT55.out.to hbc)
  replace HI58 := Lib.hid (HI58.out.to hbc)
  replace HR59 := Lib.hid (HR59.out.to hbc)
  replace HR61 := Lib.hid (HR61.out.to hbc)
  have E63B := Lib.hid (E62B.out.trans (hbc.mono E62B.out.size))
  clear hbc E62B
  have k0 : E63.cell? ⟨b54, 0, none⟩ = some (vi 225) := HP54.out.cell (j := 0) rfl
  have k1 : E63.cell? ⟨b54, 1, none⟩ = some (vi 402) := HP54.out.cell (j := 1) rfl
  obtain ⟨tb, tf, rfl, htb, t0⟩ := row1 (k := 0) HR61.out.rows.row rfl rfl
  rw [Nat.add_zero] at t0
  clear HT55 HE55 HN48 HN60 HX48 HR61 HP54
  go_wp2_with fail
  simp only [List.append_eq, List.cons_append, List.nil_append]
  refine' wp_region_box (fun w' => Below E63.heap.size E63 w') (fun a b h h' => gr_trans h h') [0, 1, 2, 3, 4, 5, 6, 7, 8, 9, 10, 11] 84 577 (by as_aux_lemma => kernel_rfl) (by as_aux_lemma => kernel_rfl) rfl (by as_aux_lemma => kernel_rfl) (by as_aux_lemma => kernel_rfl) rfl (by as_aux_lemma => kernel_rfl) ?hl64 (Below.refl _ _) ?hq64 ?hr64
  case hl64 =>
    simp only [List.map_cons, List.map_nil, List.getD_cons_zero, List.getD_cons_succ]
    exact rfl
  case hq64 =>
    intro w0 K
    have m0 := cell_keep K k0
    have m1 := cell_keep K k1
    have mz : b54 < w0.heap.size := cell_lt m0
    (repeat (go_big_quiet_step (fail)))
    exact wpQuiet_nil rfl
  refine wpUp_at (upN 12 84) (by as_aux_lemma => kernel_rfl) ?_
  refine wpUp_one (i := 12) (by as_aux_lemma => kernel_rfl) rfl rfl (fun p1 p1a p1b p1K p1H => ?_)
  go_simp
  refine (to_any _ _ _).mono ?_
  rintro e q1 ⟨rfl, hb⟩
  have H1 := gr_trans p1b hb
  refine p1H _ _ H1 ?_
  refine wpUp_at (upN 13 83) (by as_aux_lemma => kernel_rfl) ?_
  refine' wpUp_more (fun a b h h' => gr_trans h h') [13, 14, 15, 16, 17, 18, 19, 20, 21, 22, 23, 24] 71 577 (by as_aux_lemma => kernel_rfl) (by as_aux_lemma => kernel_rfl) (by as_aux_lemma => kernel_rfl) rfl (by as_aux_lemma => kernel_rfl) rfl ?hl64a1 H1 ?hq64a1 ?hr64a1
  case hl64a1 =>
    simp only [List.map_cons, List.map_nil, List.getD_cons_zero, List.getD_cons_succ]
    exact rfl
  case hq64a1 =>
    intro w0 K
    (repeat (go_big_quiet_step (fail)))
    exact wpQuiet_nil rfl
  refine wpUp_at (upN 25 71) (by as_aux_lemma => kernel_rfl) ?_
  refine' wpUp_more (fun a b h h' => gr_trans h h') [25, 26, 27, 28, 29, 30, 31, 32, 33, 34, 35, 36] 59 577 (by as_aux_lemma => kernel_rfl) (by as_aux_lemma => kernel_rfl) (by as_aux_lemma => kernel_rfl) rfl (by as_aux_lemma => kernel_rfl) rfl ?hl64a21 H1 ?hq64a21 ?hr64a21
  case hl64a21 =>
    simp only [List.map_cons, List.map_nil, List.getD_cons_zero, List.getD_cons_succ]
    exact rfl
  case hq64a21 =>
    intro w0 K
    (repeat (go_big_quiet_step (fail)))
    exact wpQuiet_nil rfl
  refine wpUp_at (upN 37 59) (by as_aux_lemma => kernel_rfl) ?_
  refine' wpUp_more (fun a b h h' => gr_trans h h') [37, 38, 39, 40, 41, 42, 43, 44, 45, 46, 47, 48] 47 577 (by as_aux_lemma => kernel_rfl) (by as_aux_lemma => kernel_rfl) (by as_aux_lemma => kernel_rfl) rfl (by as_aux_lemma => kernel_rfl) rfl ?hl64a22 H1 ?hq64a22 ?hr64a22
  case hl64a22 =>
    simp only [List.map_cons, List.map_nil, List.getD_cons_zero, List.getD_cons_succ]
    exact rfl
  case hq64a22 =>
    intro w0 K
    (repeat (go_big_quiet_step (fail)))
    exact wpQuiet_nil rfl
  refine wpUp_at (upN 49 47) (by as_aux_lemma => kernel_rfl) ?_
  refine wpUp_one (i := 49) (by as_aux_lemma => kernel_rfl) rfl rfl (fun p2 p2a p2b p2K p2H => ?_)
  go_simp
  obtain ⟨G1, hG1⟩ : ∃ V, V = p2.alloc (.cells #[vi 2] 3) := ⟨_, rfl⟩
  have hg : Below p2.heap.size p2 G1 := by rw [hG1]; exact below1 p2 _
  have hI : IntsAt G1 G1.heap.size (pt p2.heap.size) 1 [2] := by rw [hG1]; exact ints_from (l := [2]) (CellsBox.new p2 3 [vi 2]) rfl (by simp)
  rw [← hG1]
  clear hG1
  have H2 := gr_trans p2b hg
  refine p2H _ _ H2 ?_
  refine wpUp_at (upN 50 46) (by as_aux_lemma => kernel_rfl) ?_
  refine wpUp_one (i := 50) (by as_aux_lemma => kernel_rfl) rfl rfl (fun p3 p3a p3b p3K p3H => ?_)
  go_simp
  refine (match_free B58 (pt p2.heap.size) 1 1 [2] [2] p3 (HI58.out.to p3b) (hI.to p3a)).mono ?_
  rintro e q3 ⟨rfl, hb3⟩
  rw [show decide ([(2 : Int)] = [2]) = true by decide]
  have H3 := gr_trans p3b hb3
  refine p3H _ _ H3 ?_
  refine wpUp_at (upN 51 45) (by as_aux_lemma => kernel_rfl) ?_
  refine' wpUp_more (fun a b h h' => gr_trans h h') [51, 52, 53, 54, 55, 56, 57] 38 577 (by as_aux_lemma => kernel_rfl) (by as_aux_lemma => kernel_rfl) (by as_aux_lemma => kernel_rfl) rfl (by as_aux_lemma => kernel_rfl) rfl ?hl64b H3 ?hq64b ?hr64b
  case hl64b =>
    simp only [List.map_cons, List.map_nil, List.getD_cons_zero, List.getD_cons_succ]
    exact rfl
  case hq64b =>
    intro w0 K
    (repeat (go_big_quiet_step (fail)))
    exact wpQuiet_nil rfl
  refine wpUp_at (upN 58 38) (by as_aux_lemma => kernel_rfl) ?_
  refine wpUp_one (i := 58) (by as_aux_lemma => kernel_rfl) rfl rfl (fun r0 r0a r0b r0K r0H => ?_)
  go_simp
  refine (to_any _ _ _).mono ?_
  rintro e s0 ⟨rfl, hc0⟩
  have J0 := gr_trans r0b hc0
  refine r0H _ _ J0 ?_
  refine wpUp_at (upN 59 37) (by as_aux_lemma => kernel_rfl) ?_
  refine wpUp_one (i := 59) (by as_aux_lemma => kernel_rfl) rfl rfl (fun r1 r1a r1b r1K r1H => ?_)
  go_simp
  refine (to_any _ _ _).mono ?_
  rintro e s1 ⟨rfl, hc1⟩
  have J1 := gr_trans r1b hc1
  refine r1H _ _ J1 ?_
  refine wpUp_at (upN 60 36) (by as_aux_lemma => kernel_rfl) ?_
  refine wpUp_one (i := 60) (by as_aux_lemma => kernel_rfl) rfl rfl (fun r2 r2a r2b r2K r2H => ?_)
  go_simp
  refine (to_any _ _ _).mono ?_
  rintro e s2 ⟨rfl, hc2⟩
  have J2 := gr_trans r2b hc2
  refine r2H _ _ J2 ?_
  refine wpUp_at (upN 61 35) (by as_aux_lemma => kernel_rfl) ?_
  refine wpUp_one (i := 61) (by as_aux_lemma => kernel_rfl) rfl rfl (fun r3 r3a r3b r3K r3H => ?_)
  go_simp
  refine (to_any _ _ _).mono ?_
  rintro e s3 ⟨rfl, hc3⟩
  have J3 := gr_trans r3b hc3
  refine r3H _ _ J3 ?_
  refine wpUp_at (upN 62 34) (by as_aux_lemma => kernel_rfl) ?_
  refine wpUp_one (i := 62) (by as_aux_lemma => kernel_rfl) rfl rfl (fun p4 p4a p4b p4K p4H => ?_)
  go_simp
  obtain ⟨G2, hG2⟩ : ∃ V, V = p4.alloc (.cells #[vi 460, vi 842, vi 320, vi 590, vi 250, vi 450, vi 225, vi 402] 24) := ⟨_, rfl⟩
  have hg2 : Below p4.heap.size p4 G2 := by rw [hG2]; exact below1 p4 _
  have hI2 : RowsAt G2 G2.heap.size 2 (pt p4.heap.size) 4 (([((460 : Int), (842 : Int)), (320, 590), (250, 450), (225, 402)] : List (Int × Int)).map spanC) := by
    rw [hG2]
    exact rowsK (r := []) (fun x hx => by obtain ⟨y, _, rfl⟩ := List.mem_map.1 hx; rfl) (CellsBox.new p4 24 [vi 460, vi 842, vi 320, vi 590, vi 250, vi 450, vi 225, vi 402]) (by simp) (by omega)
  rw [← hG2]
  clear hG2
  have H4 := gr_trans p4b hg2
  refine p4H _ _ H4 ?_
  refine wpUp_at (upN 63 33) (by as_aux_lemma => kernel_rfl) ?_
  refine wpUp_one (i := 63) (by as_aux_lemma => kernel_rfl) rfl rfl (fun p5 p5a p5b p5K p5H => ?_)
  go_simp
  refine (matchSpans_free R59 (pt p4.heap.size) 4 4 [((460 : Int), (842 : Int)), (320, 590), (250, 450), (225, 402)] [((460 : Int), (842 : Int)), (320, 590), (250, 450), (225, 402)] p5 (HR59.out.to p5b) (hI2.to p5a)).mono ?_
  rintro e q5 ⟨rfl, hb5⟩
  rw [show decide (([((460 : Int), (842 : Int)), (320, 590), (250, 450), (225, 402)] : List (Int × Int)) = [((460 : Int), (842 : Int)), (320, 590), (250, 450), (225, 402)]) = true by decide]
  have H5 := gr_trans p5b hb5
  refine p5H _ _ H5 ?_
  refine wpUp_at (upN 64 32) (by as_aux_lemma => kernel_rfl) ?_
  refine' wpUp_more (fun a b h h' => gr_trans h h') [64, 65, 66, 67, 68, 69, 70, 71, 72, 73, 74, 75] 20 577 (by as_aux_lemma => kernel_rfl) (by as_aux_lemma => kernel_rfl) (by as_aux_lemma => kernel_rfl) rfl (by as_aux_lemma => kernel_rfl) rfl ?hl64c1 H5 ?hq64c1 ?hr64c1
  case hl64c1 =>
    simp only [List.map_cons, List.map_nil, List.getD_cons_zero, List.getD_cons_succ]
    exact rfl
  case hq64c1 =>
    intro w0 K
    have m0 := cell_keep K t0
    have mz : tb < w0.heap.size := cell_lt m0
    (repeat (go_big_quiet_step (fail)))
    exact wpQuiet_nil rfl
  refine wpUp_at (upN 76 20) (by as_aux_lemma => kernel_rfl) ?_
  refine' wpUp_more (fun a b h h' => gr_trans h h') [76, 77, 78, 79, 80, 81, 82, 83, 84, 85, 86, 87] 8 577 (by as_aux_lemma => kernel_rfl) (by as_aux_lemma => kernel_rfl) (by as_aux_lemma => kernel_rfl) rfl (by as_aux_lemma => kernel_rfl) rfl ?hl64c21 H5 ?hq64c21 ?hr64c21
  case hl64c21 =>
    simp only [List.map_cons, List.map_nil, List.getD_cons_zero, List.getD_cons_succ]
    exact rfl
  case hq64c21 =>
    intro w0 K
    have m0 := cell_keep K t0
    have mz : tb < w0.heap.size := cell_lt m0
    (repeat (go_big_quiet_step (fail)))
    exact wpQuiet_nil rfl
  refine wpUp_at (upN 88 8) (by as_aux_lemma => kernel_rfl) ?_
  refine' wpUp_more (fun a b h h' => gr_trans h h') [88, 89, 90, 91, 92] 3 577 (by as_aux_lemma => kernel_rfl) (by as_aux_lemma => kernel_rfl) (by as_aux_lemma => kernel_rfl) rfl (by as_aux_lemma => kernel_rfl) rfl ?hl64c22 H5 ?hq64c22 ?hr64c22
  case hl64c22 =>
    simp only [List.map_cons, List.map_nil, List.getD_cons_zero, List.getD_cons_succ]
    exact rfl
  case hq64c22 =>
    intro w0 K
    have m0 := cell_keep K t0
    have mz : tb < w0.heap.size := cell_lt m0
    (repeat (go_big_quiet_step (fail)))
    exact wpQuiet_nil rfl
  refine wpUp_at (upN 93 3) (by as_aux_lemma => kernel_rfl) ?_
  refine wpUp_one (i := 93) (by as_aux_lemma => kernel_rfl) rfl rfl (fun p6 p6a p6b p6K p6H => ?_)
  go_simp
  refine (works_any _ (HL.out.next (E63B.out.trans (p6b.mono E63B.out.size)))).mono ?_
  rintro e q6 ⟨rfl, hb6⟩
  have H6 := gr_trans p6b hb6
  refine p6H _ _ H6 ?_
  refine wpUp_at (upN 94 2) (by as_aux_lemma => kernel_rfl) ?_
  refine' wpUp_more (fun a b h h' => gr_trans h h') [94, 95] 0 577 (by as_aux_lemma => kernel_rfl) (by as_aux_lemma => kernel_rfl) (by as_aux_lemma => kernel_rfl) rfl (by as_aux_lemma => kernel_rfl) rfl ?hl64d H6 ?hq64d ?hr64d
  case hl64d =>
    simp only [List.map_cons, List.map_nil, List.getD_cons_zero, List.getD_cons_succ]
    exact rfl
  case hq64d =>
    intro w0 K
    (repeat (go_big_quiet_step (fail)))
    exact wpQuiet_nil rfl
  refine wpUp_at (upN 96 0) (by as_aux_lemma => kernel_rfl) ?_
  refine wpUp_done (by as_aux_lemma => kernel_rfl) (fun W9 g1 g2 => NoPanic.normal ?_)
  have H9 := E63B.out.trans (g2.mono E63B.out.size)
  go_wp2_with fail
  go_ret
  exact ⟨rfl, H9⟩
end Go.Proofs.YtomgnpfpaodpiaaDoor
/- The law SlipKnown: its walk, the middle. -/
namespace Go.Proofs.YtomgnpfpaodpiaaDoor
open Go Go.RowKit
set_option maxHeartbeats 64000000
set_option maxRecDepth 1000000 in
theorem tail27 (w : World) (HL : Hid (Lim w)) (Wa : World) (WaB : Hid (Below w.heap.size w Wa)) (s0 s1 s2 s3 s4 s5 s6 s7 s8 s9 s10 s11 s12 s13 s14 s15 s16 s17 s18 s19 s20 s21 s22 s23 s24 s25 s26 s27 s28 s29 s30 s31 s32 s33 s34 s35 s36 s37 s38 s39 s40 s41 s42 s43 s44 s45 s46 s47 s48 s49 s50 s51 s52 s53 s54 s55 s56 s57 s58 s59 s60 s61 s62 s63 s64 s65 s66 s67 s68 s69 s70 s71 s72 s73 s74 s75 s76 s77 s78 s79 s80 s81 s82 s83 s84 s85 s86 s87 s88 s89 s90 s91 s92 s93 s94 s95 s96 s97 s98 s99 s100 s101 s102 s103 s104 s105 s106 s107 s108 s109 s110 s111 s112 s113 s114 s115 s116 s117 s118 s119 s120 s121 s122 s123 s124 s125 s126 s127 s128 s129 s130 s131 s132 s133 s134 s135 s136 s137 s138 s139 s140 s141 s142 s143 s144 s145 s146 s147 s148 s149 s150 s151 s152 s153 s154 s155 s156 s157 s158 s159 s160 s161 s162 s163 s164 s165 s166 s167 s168 s169 s170 s171 s172 s173 s174 s175 s176 s177 s178 s179 s180 s181 s182 s183 s184 s185 s186 s187 s188 s189 s190 s191 s192 s193 s194 s195 s196 s197 s198 s199 s200 s201 s202 s203 s204 s205 s206 s207 s208 s209 s210 s211 s212 s213 s214 s215 s216 s217 s218 s219 s220 s221 s222 s223 s224 s225 s226 s227 s228 s229 s230 s231 s232 s233 s234 s235 s236 s237 s238 s239 s240 s241 s242 s243 s244 s245 s246 s247 s248 s249 s250 s251 s252 : Value) :
    Code.wp Tryd.prog (tailOf 27) (bodyPost Tryd.prog Tryd.f13 fun e w' => e = .returned (.bool true) ∧ Below w.heap.size w w') ⟨List.toArray (s0 :: s1 :: s2 :: s3 :: s4 :: s5 :: s6 :: s7 :: s8 :: s9 :: s10 :: s11 :: s12 :: s13 :: s14 :: s15 :: s16 :: s17 :: s18 :: s19 :: s20 :: s21 :: s22 :: s23 :: s24 :: s25 :: s26 :: s27 :: s28 :: s29 :: s30 :: s31 :: s32 :: s33 :: s34 :: s35 :: s36 :: s37 :: s38 :: s39 :: s40 :: s41 :: s42 :: s43 :: s44 :: s45 :: s46 :: s47 :: s48 :: s49 :: s50 :: s51 :: s52 :: s53 :: s54 :: s55 :: s56 :: s57 :: s58 :: s59 :: s60 :: s61 :: s62 :: s63 :: s64 :: s65 :: s66 :: s67 :: s68 :: s69 :: s70 :: s71 :: s72 :: s73 :: s74 :: s75 :: s76 :: s77 :: s78 :: s79 :: s80 :: s81 :: s82 :: s83 :: s84 :: s85 :: s86 :: s87 :: s88 :: s89 :: s90 :: s91 :: s92 :: s93 :: s94 :: s95 :: s96 :: s97 :: s98 :: s99 :: s100 :: s101 :: s102 :: s103 :: s104 :: s105 :: s106 :: s107 :: s108 :: s109 :: s110 :: s111 :: s112 :: s113 :: s114 :: s115 :: s116 :: s117 :: s118 :: s119 :: s120 :: s121 :: s122 :: s123 :: s124 :: s125 :: s126 :: s127 :: s128 :: s129 :: s130 :: s131 :: s132 :: s133 :: s134 :: s135 :: s136 :: s137 :: s138 :: s139 :: s140 :: s141 :: s142 :: s143 :: s144 :: s145 :: s146 :: s147 :: s148 :: s149 :: s150 :: s151 :: s152 :: s153 :: s154 :: s155 :: s156 :: s157 :: s158 :: s159 :: s160 :: s161 :: s162 :: s163 :: s164 :: s165 :: s166 :: s167 :: s168 :: s169 :: s170 :: s171 :: s172 :: s173 :: s174 :: s175 :: s176 :: s177 :: s178 :: s179 :: s180 :: s181 :: s182 :: s183 :: s184 :: s185 :: s186 :: s187 :: s188 :: s189 :: s190 :: s191 :: s192 :: s193 :: s194 :: s195 :: s196 :: s197 :: s198 :: s199 :: s200 :: s201 :: s202 :: s203 :: s204 :: s205 :: s206 :: s207 :: s208 :: s209 :: s210 :: s211 :: s212 :: s213 :: s214 :: s215 :: s216 :: s217 :: s218 :: s219 :: s220 :: s221 :: s222 :: s223 :: s224 :: s225 :: s226 :: s227 :: s228 :: s229 :: s230 :: s231 :: s232 :: s233 :: s234 :: s235 :: s236 :: s237 :: s238 :: s239 :: s240 :: s241 :: s242 :: s243 :: s244 :: s245 :: s246 :: s247 :: s248 :: s249 :: s250 :: s251 :: s252 :: undef :: undef :: undef :: undef :: undef :: undef :: undef :: undef :: undef :: undef :: undef :: undef :: undef :: undef :: undef :: undef :: undef :: undef :: undef :: undef :: undef :: undef :: undef :: undef :: undef :: undef :: undef :: undef :: undef :: undef :: undef :: undef :: undef :: undef :: undef :: undef :: undef :: undef :: undef :: undef :: undef :: undef :: undef :: undef :: undef :: undef :: undef :: undef :: undef :: undef :: undef :: undef :: undef :: undef :: undef :: undef :: undef :: undef :: undef :: undef :: undef :: undef :: undef :: undef :: undef :: undef :: undef :: undef :: undef :: undef :: undef :: undef :: undef :: undef :: undef :: undef :: undef :: undef :: undef :: undef :: undef :: undef :: undef :: undef :: undef :: undef :: undef :: undef :: undef :: undef :: undef :: undef :: undef :: undef :: undef :: undef :: undef :: undef :: undef :: undef :: undef :: undef :: undef :: undef :: undef :: undef :: undef :: undef :: undef :: undef :: undef :: undef :: undef :: undef :: undef :: undef :: undef :: undef :: undef :: undef :: undef :: undef :: undef :: undef :: undef :: undef :: undef :: undef :: undef :: undef :: undef :: undef :: undef :: undef :: undef :: undef :: undef :: undef :: undef :: undef :: undef :: undef :: undef :: undef :: undef :: undef :: undef :: undef :: undef :: undef :: undef :: undef :: undef :: undef :: undef :: undef :: undef :: undef :: undef :: undef :: undef :: undef :: undef :: undef :: undef :: undef :: undef :: undef :: undef :: undef :: undef :: undef :: undef :: undef :: undef :: undef :: undef :: undef :: undef :: undef :: undef :: undef :: undef :: undef :: undef :: undef :: undef :: undef :: undef :: undef :: undef :: undef :: undef :: undef :: undef :: undef :: undef :: undef :: undef :: undef :: undef :: undef :: undef :: undef :: undef :: undef :: undef :: undef :: undef :: undef :: undef :: undef :: undef :: undef :: undef :: undef :: undef :: undef :: undef :: undef :: undef :: undef :: undef :: undef :: undef :: undef :: undef :: undef :: undef :: undef :: undef :: undef :: undef :: undef :: undef :: undef :: undef :: undef :: undef :: undef :: undef :: undef :: undef :: undef :: undef :: undef :: undef :: undef :: undef :: undef :: undef :: undef :: undef :: undef :: undef :: undef :: undef :: undef :: undef :: undef :: undef :: undef :: undef :: undef :: undef :: undef :: undef :: undef :: undef :: undef :: undef :: undef :: undef :: undef :: undef :: undef :: undef :: undef :: undef :: undef :: undef :: undef :: undef :: undef :: undef :: undef :: undef :: undef :: undef :: undef :: undef :: undef :: undef :: undef :: undef :: undef :: undef :: undef :: undef :: undef :: undef :: undef :: undef :: undef :: undef :: undef :: undef :: undef :: undef :: undef :: undef :: undef :: undef :: undef :: undef :: undef :: undef :: undef :: undef :: undef :: undef :: undef :: undef :: undef :: []), []⟩ Wa := by
  conv => arg 2; whnf
  go_wp2_with fail
  refine (of_is _ _ _).mono ?_
  rintro e U1 ⟨rfl, hu1⟩
  go_wp2_with fail
  refine (of_is _ _ _).mono ?_
  rintro e U2 ⟨rfl, hu2⟩
  go_wp2_with fail
  refine (of_is _ _ _).mono ?_
  rintro e U3 ⟨rfl, hu3⟩
  go_wp2_with fail
  refine (of_is _ _ _).mono ?_
  rintro e U4 ⟨rfl, hu4⟩
  go_wp2_with fail
  refine (of_is _ _ _).mono ?_
  rintro e U5 ⟨rfl, hu5⟩
  go_wp2_with fail
  refine (of_is _ _ _).mono ?_
  rintro e U6 ⟨rfl, hu6⟩
  go_wp2_with fail
  refine (of_is _ _ _).mono ?_
  rintro e U7 ⟨rfl, hu7⟩
  go_wp2_with fail
  refine (of_is _ _ _).mono ?_
  rintro e U8 ⟨rfl, hu8⟩
  go_wp2_with fail
  refine (of_is _ _ _).mono ?_
  rintro e U9 ⟨rfl, hu9⟩
  go_wp2_with fail
  refine (of_is _ _ _).mono ?_
  rintro e U10 ⟨rfl, hu10⟩
  go_wp2_with fail
  refine (of_is _ _ _).mono ?_
  rintro e U11 ⟨rfl, hu11⟩
  go_wp2_with fail
  refine (of_is _ _ _).mono ?_
  rintro e U12 ⟨rfl, hu12⟩
  go_wp2_with fail
  refine (of_is _ _ _).mono ?_
  rintro e U13 ⟨rfl, hu13⟩
  go_wp2_with fail
  refine (of_is _ _ _).mono ?_
  rintro e U14 ⟨rfl, hu14⟩
  go_wp2_with fail
  refine (of_is _ _ _).mono ?_
  rintro e U15 ⟨rfl, hu15⟩
  go_wp2_with fail
  refine (of_is _ _ _).mono ?_
  rintro e U16 ⟨rfl, hu16⟩
  go_upto_region 28 with fail
  obtain ⟨EF, hEF⟩ : ∃ W, W = (((U16.alloc (.cells #[vi 2, vi 3] 64)).alloc (.cells #[.slice (pt U15.heap.size) 2 2, .slice (pt U16.heap.size) 1 1] 50)).alloc (.cells #[.slice none 0 0, .slice (pt (U2.heap.size + 1)) 1 1, .slice (pt (U4.heap.size + 1)) 1 1, .slice (pt (U7.heap.size + 1 + 1)) 3 3, .slice (pt (U10.heap.size + 1)) 2 2, .slice (pt (U13.heap.size + 1)) 2 2, .slice (pt (U16.heap.size + 1)) 2 2] 29)) := ⟨_, rfl⟩
  have B16 : Below U16.heap.size U16 EF := by rw [hEF]; exact ((((Below.refl U16.heap.size U16).alloc (by first | exact Nat.le_refl _ | (simp; done) | (simp; omega)) _).alloc (by first | exact Nat.le_refl _ | (simp; done) | (simp; omega)) _).alloc (by first | exact Nat.le_refl _ | (simp; done) | (simp; omega)) _)
  have B15 : Below U15.heap.size U15 EF := gr_trans (gr_trans ((Below.refl U15.heap.size U15).alloc (by first | exact Nat.le_refl _ | (simp; done) | (simp; omega)) _) hu16) B16
  have B14 : Below U14.heap.size U14 EF := gr_trans hu15 B15
  have B13 : Below U13.heap.size U13 EF := gr_trans (gr_trans (((Below.refl U13.heap.size U13).alloc (by first | exact Nat.le_refl _ | (simp; done) | (simp; omega)) _).alloc (by first | exact Nat.le_refl _ | (simp; done) | (simp; omega)) _) hu14) B14
  have B12 : Below U12.heap.size U12 EF := gr_trans (gr_trans ((Below.refl U12.heap.size U12).alloc (by first | exact Nat.le_refl _ | (simp; done) | (simp; omega)) _) hu13) B13
  have B11 : Below U11.heap.size U11 EF := gr_trans hu12 B12
  have B10 : Below U10.heap.size U10 EF := gr_trans (gr_trans (((Below.refl U10.heap.size U10).alloc (by first | exact Nat.le_refl _ | (simp; done) | (simp; omega)) _).alloc (by first | exact Nat.le_refl _ | (simp; done) | (simp; omega)) _) hu11) B11
  have B9 : Below U9.heap.size U9 EF := gr_trans (gr_trans ((Below.refl U9.heap.size U9).alloc (by first | exact Nat.le_refl _ | (simp; done) | (simp; omega)) _) hu10) B10
  have B8 : Below U8.heap.size U8 EF := gr_trans hu9 B9
  have B7 : Below U7.heap.size U7 EF := gr_trans (gr_trans ((((Below.refl U7.heap.size U7).alloc (by first | exact Nat.le_refl _ | (simp; done) | (simp; omega)) _).alloc (by first | exact Nat.le_refl _ | (simp; done) | (simp; omega)) _).alloc (by first | exact Nat.le_refl _ | (simp; done) | (simp; omega)) _) hu8) B8
  have B6 : Below U6.heap.size U6 EF := gr_trans (gr_trans ((Below.refl U6.heap.size U6).alloc (by first | exact Nat.le_refl _ | (simp; done) | (simp; omega)) _) hu7) B7
  have B5 : Below U5.heap.size U5 EF := gr_trans hu6 B6
  have B4 : Below U4.heap.size U4 EF := gr_trans (gr_trans (((Below.refl U4.heap.size U4).alloc (by first | exact Nat.le_refl _ | (simp; done) | (simp; omega)) _).alloc (by first | exact Nat.le_refl _ | (simp; done) | (simp; omega)) _) hu5) B5
  have B3 : Below U3.heap.size U3 EF := gr_trans hu4 B4
  have B2 : Below U2.heap.size U2 EF := gr_trans (gr_trans (((Below.refl U2.heap.size U2).alloc (by first | exact Nat.le_refl _ | (simp; done) | (simp; omega)) _).alloc (by first | exact Nat.le_refl _ | (simp; done) | (simp; omega)) _) hu3) B3
  have B1 : Below U1.heap.size U1 EF := gr_trans hu2 B2
  have B0 : Below Wa.heap.size Wa EF := gr_trans hu1 B1
  have n2_0 : CellsBox EF (U2.heap.size) 64 [vi 0, vi 2, vi 2, vi 3] := by
    have h := CellsBox.new U2 64 [vi 0, vi 2, vi 2, vi 3]
    exact ((h.alloc _).keep hu3).keep B3
  have n2_1 : CellsBox EF (U2.heap.size + 1) 50 [.slice (pt U2.heap.size) 2 2] := by
    have h := CellsBox.new (U2.alloc (.cells #[vi 0, vi 2, vi 2, vi 3] 64)) 50 [.slice (pt U2.heap.size) 2 2]
    simp only [World.size_alloc] at h
    exact (h.keep hu3).keep B3
  have n4_0 : CellsBox EF (U4.heap.size) 64 [vi 0, vi 1, vi 2, vi 3] := by
    have h := CellsBox.new U4 64 [vi 0, vi 1, vi 2, vi 3]
    exact ((h.alloc _).keep hu5).keep B5
  have n4_1 : CellsBox EF (U4.heap.size + 1) 50 [.slice (pt U4.heap.size) 2 2] := by
    have h := CellsBox.new (U4.alloc (.cells #[vi 0, vi 1, vi 2, vi 3] 64)) 50 [.slice (pt U4.heap.size) 2 2]
    simp only [World.size_alloc] at h
    exact (h.keep hu5).keep B5
  have n6_0 : CellsBox EF (U6.heap.size) 64 [vi 0, vi 1, vi 2, vi 3] := by
    have h := CellsBox.new U6 64 [vi 0, vi 1, vi 2, vi 3]
    exact (h.keep hu7).keep B7
  have n7_0 : CellsBox EF (U7.heap.size) 64 [vi 0, vi 1] := by
    have h := CellsBox.new U7 64 [vi 0, vi 1]
    exact (((h.alloc _).alloc _).keep hu8).keep B8
  have n7_1 : CellsBox EF (U7.heap.size + 1) 64 [] := by
    have h := CellsBox.new (U7.alloc (.cells #[vi 0, vi 1] 64)) 64 []
    simp only [World.size_alloc] at h
    exact ((h.alloc _).keep hu8).keep B8
  have n7_2 : CellsBox EF (U7.heap.size + 1 + 1) 50 [.slice (pt U6.heap.size) 2 2, .slice (pt U7.heap.size) 1 1, .slice (pt (U7.heap.size + 1)) 0 0] := by
    have h := CellsBox.new ((U7.alloc (.cells #[vi 0, vi 1] 64)).alloc (.cells #[] 64)) 50 [.slice (pt U6.heap.size) 2 2, .slice (pt U7.heap.size) 1 1, .slice (pt (U7.heap.size + 1)) 0 0]
    simp only [World.size_alloc] at h
    exact (h.keep hu8).keep B8
  have n9_0 : CellsBox EF (U9.heap.size) 64 [vi 0, vi 2, vi 2, vi 2] := by
    have h := CellsBox.new U9 64 [vi 0, vi 2, vi 2, vi 2]
    exact (h.keep hu10).keep B10
  have n10_0 : CellsBox EF (U10.heap.size) 64 [vi 2, vi 2] := by
    have h := CellsBox.new U10 64 [vi 2, vi 2]
    exact ((h.alloc _).keep hu11).keep B11
  have n10_1 : CellsBox EF (U10.heap.size + 1) 50 [.slice (pt U9.heap.size) 2 2, .slice (pt U10.heap.size) 1 1] := by
    have h := CellsBox.new (U10.alloc (.cells #[vi 2, vi 2] 64)) 50 [.slice (pt U9.heap.size) 2 2, .slice (pt U10.heap.size) 1 1]
    simp only [World.size_alloc] at h
    exact (h.keep hu11).keep B11
  have n12_0 : CellsBox EF (U12.heap.size) 64 [vi 2, vi 3, vi 0, vi 1] := by
    have h := CellsBox.new U12 64 [vi 2, vi 3, vi 0, vi 1]
    exact (h.keep hu13).keep B13
  have n13_0 : CellsBox EF (U13.heap.size) 64 [vi 0, vi 1] := by
    have h := CellsBox.new U13 64 [vi 0, vi 1]
    exact ((h.alloc _).keep hu14).keep B14
  have n13_1 : CellsBox EF (U13.heap.size + 1) 50 [.slice (pt U12.heap.size) 2 2, .slice (pt U13.heap.size) 1 1] := by
    have h := CellsBox.new (U13.alloc (.cells #[vi 0, vi 1] 64)) 50 [.slice (pt U12.heap.size) 2 2, .slice (pt U13.heap.size) 1 1]
    simp only [World.size_alloc] at h
    exact (h.keep hu14).keep B14
  have n15_0 : CellsBox EF (U15.heap.size) 64 [vi 0, vi 1, vi 0, vi 1] := by
    have h := CellsBox.new U15 64 [vi 0, vi 1, vi 0, vi 1]
    exact (h.keep hu16).keep B16
  have n16_0 : CellsBox EF (U16.heap.size) 64 [vi 2, vi 3] := by
    have h := CellsBox.new U16 64 [vi 2, vi 3]
    rw [hEF]; exact ((h.alloc _).alloc _)
  have n16_1 : CellsBox EF (U16.heap.size + 1) 50 [.slice (pt U15.heap.size) 2 2, .slice (pt U16.heap.size) 1 1] := by
    have h := CellsBox.new (U16.alloc (.cells #[vi 2, vi 3] 64)) 50 [.slice (pt U15.heap.size) 2 2, .slice (pt U16.heap.size) 1 1]
    simp only [World.size_alloc] at h
    rw [hEF]; exact (h.alloc _)
  have n16_2 : CellsBox EF (U16.heap.size + 1 + 1) 29 [.slice none 0 0, .slice (pt (U2.heap.size + 1)) 1 1, .slice (pt (U4.heap.size + 1)) 1 1, .slice (pt (U7.heap.size + 1 + 1)) 3 3, .slice (pt (U10.heap.size + 1)) 2 2, .slice (pt (U13.heap.size + 1)) 2 2, .slice (pt (U16.heap.size + 1)) 2 2] := by
    have h := CellsBox.new ((U16.alloc (.cells #[vi 2, vi 3] 64)).alloc (.cells #[.slice (pt U15.heap.size) 2 2, .slice (pt U16.heap.size) 1 1] 50)) 29 [.slice none 0 0, .slice (pt (U2.heap.size + 1)) 1 1, .slice (pt (U4.heap.size + 1)) 1 1, .slice (pt (U7.heap.size + 1 + 1)) 3 3, .slice (pt (U10.heap.size + 1)) 2 2, .slice (pt (U13.heap.size + 1)) 2 2, .slice (pt (U16.heap.size + 1)) 2 2]
    simp only [World.size_alloc] at h
    rw [hEF]; exact h
  obtain ⟨T, hT⟩ : ∃ T : List (Option Addr × List STour), T = [(none, []), (pt (U2.heap.size + 1), [(⟨pt (U2.heap.size), 2, [⟨0, 2⟩, ⟨2, 3⟩]⟩ : STour)]), (pt (U4.heap.size + 1), [(⟨pt (U4.heap.size), 2, [⟨0, 1⟩, ⟨2, 3⟩]⟩ : STour)]), (pt (U7.heap.size + 1 + 1), [(⟨pt (U6.heap.size), 2, [⟨0, 1⟩, ⟨2, 3⟩]⟩ : STour), (⟨pt (U7.heap.size), 1, [⟨0, 1⟩]⟩ : STour), (⟨pt (U7.heap.size + 1), 0, []⟩ : STour)]), (pt (U10.heap.size + 1), [(⟨pt (U9.heap.size), 2, [⟨0, 2⟩, ⟨2, 2⟩]⟩ : STour), (⟨pt (U10.heap.size), 1, [⟨2, 2⟩]⟩ : STour)]), (pt (U13.heap.size + 1), [(⟨pt (U12.heap.size), 2, [⟨2, 3⟩, ⟨0, 1⟩]⟩ : STour), (⟨pt (U13.heap.size), 1, [⟨0, 1⟩]⟩ : STour)]), (pt (U16.heap.size + 1), [(⟨pt (U15.heap.size), 2, [⟨0, 1⟩, ⟨0, 1⟩]⟩ : STour), (⟨pt (U16.heap.size), 1, [⟨2, 3⟩]⟩ : STour)])] := ⟨_, rfl⟩
  obtain ⟨bN, hbN⟩ : ∃ b, b = U16.heap.size + 1 + 1 := ⟨_, rfl⟩
  have hNA : NotAt EF bN T := by
    rw [hT, hbN]
    refine ⟨n16_2, fun p hp => ?_, fun p hp => ?_⟩
    · simp only [List.mem_cons, List.not_mem_nil, or_false] at hp
      rcases hp with rfl | rfl | rfl | rfl | rfl | rfl | rfl
      · exact ⟨rows_none' _ 1, fun t ht => by simp at ht⟩
      · refine tours_of (ts := [(⟨pt (U2.heap.size), 2, [⟨0, 2⟩, ⟨2, 3⟩]⟩ : STour)]) n2_1 rfl (by simp) fun t ht => ?_
        simp only [List.mem_cons, List.not_mem_nil, or_false] at ht
        subst ht
        exact lines_of_box (l := [⟨0, 2⟩, ⟨2, 3⟩]) n2_0 rfl (by simp)
      · refine tours_of (ts := [(⟨pt (U4.heap.size), 2, [⟨0, 1⟩, ⟨2, 3⟩]⟩ : STour)]) n4_1 rfl (by simp) fun t ht => ?_
        simp only [List.mem_cons, List.not_mem_nil, or_false] at ht
        subst ht
        exact lines_of_box (l := [⟨0, 1⟩, ⟨2, 3⟩]) n4_0 rfl (by simp)
      · refine tours_of (ts := [(⟨pt (U6.heap.size), 2, [⟨0, 1⟩, ⟨2, 3⟩]⟩ : STour), (⟨pt (U7.heap.size), 1, [⟨0, 1⟩]⟩ : STour), (⟨pt (U7.heap.size + 1), 0, []⟩ : STour)]) n7_2 rfl (by simp) fun t ht => ?_
        simp only [List.mem_cons, List.not_mem_nil, or_false] at ht
        rcases ht with rfl | rfl | rfl
        · exact lines_of_box (l := [⟨0, 1⟩, ⟨2, 3⟩]) n6_0 rfl (by simp)
        · exact lines_of_box (l := [⟨0, 1⟩]) n7_0 rfl (by simp)
        · exact lines_of_box (l := []) n7_1 rfl (by simp)
      · refine tours_of (ts := [(⟨pt (U9.heap.size), 2, [⟨0, 2⟩, ⟨2, 2⟩]⟩ : STour), (⟨pt (U10.heap.size), 1, [⟨2, 2⟩]⟩ : STour)]) n10_1 rfl (by simp) fun t ht => ?_
        simp only [List.mem_cons, List.not_mem_nil, or_false] at ht
        rcases ht with rfl | rfl
        · exact lines_of_box (l := [⟨0, 2⟩, ⟨2, 2⟩]) n9_0 rfl (by simp)
        · exact lines_of_box (l := [⟨2, 2⟩]) n10_0 rfl (by simp)
      · refine tours_of (ts := [(⟨pt (U12.heap.size), 2, [⟨2, 3⟩, ⟨0, 1⟩]⟩ : STour), (⟨pt (U13.heap.size), 1, [⟨0, 1⟩]⟩ : STour)]) n13_1 rfl (by simp) fun t ht => ?_
        simp only [List.mem_cons, List.not_mem_nil, or_false] at ht
        rcases ht with rfl | rfl
        · exact lines_of_box (l := [⟨2, 3⟩, ⟨0, 1⟩]) n12_0 rfl (by simp)
        · exact lines_of_box (l := [⟨0, 1⟩]) n13_0 rfl (by simp)
      · refine tours_of (ts := [(⟨pt (U15.heap.size), 2, [⟨0, 1⟩, ⟨0, 1⟩]⟩ : STour), (⟨pt (U16.heap.size), 1, [⟨2, 3⟩]⟩ : STour)]) n16_1 rfl (by simp) fun t ht => ?_
        simp only [List.mem_cons, List.not_mem_nil, or_false] at ht
        rcases ht with rfl | rfl
        · exact lines_of_box (l := [⟨0, 1⟩, ⟨0, 1⟩]) n15_0 rfl (by simp)
        · exact lines_of_box (l := [⟨2, 3⟩]) n16_0 rfl (by simp)
    · simp only [List.mem_cons, List.not_mem_nil, or_false] at hp
      rcases hp with rfl | rfl | rfl | rfl | rfl | rfl | rfl
      · intro a0 a1 a2 a3 a4 a5 a6; kernel_rfl
      · intro a0 a1 a2 a3 a4 a5 a6; kernel_rfl
      · intro a0 a1 a2 a3 a4 a5 a6; kernel_rfl
      · intro a0 a1 a2 a3 a4 a5 a6; kernel_rfl
      · intro a0 a1 a2 a3 a4 a5 a6; kernel_rfl
      · intro a0 a1 a2 a3 a4 a5 a6; kernel_rfl
      · intro a0 a1 a2 a3 a4 a5 a6; kernel_rfl
  have hT7 : T.length = 7 := by rw [hT]; rfl
  rw [← hEF, ← hbN]
  have EFB := Lib.hid (WaB.out.trans (B0.mono WaB.out.size))
  have HNA := Lib.hid hNA
  clear hNA hT hEF hbN B0 B1 B2 B3 B4 B5 B6 B7 B8 B9 B10 B11 B12 B13 B14 B15 B16 hu1 hu2 hu3 hu4 hu5 hu6 hu7 hu8 hu9 hu10 hu11 hu12 hu13 hu14 hu15 hu16 n2_0 n2_1 n4_0 n4_1 n6_0 n7_0 n7_1 n7_2 n9_0 n10_0 n10_1 n12_0 n13_0 n13_1 n15_0 n16_0 n16_1 n16_2
  go_upto_block 2 with fail
  go_cut [] from 253 to 306 (fun wx => Below w.heap.size w wx)
  case first =>
    as_aux_lemma =>
      go_wp2_with fail
      go_loopw [20, 21, 22] (fun a _ _ wr => ∃ k : Nat, k ≤ 7 ∧ a = .int .i64 k ∧ Below EF.heap.size EF wr) (fun a _ _ _ => 7 - (intOf a).toNat)
      case atStart => exact ⟨0, Nat.zero_le _, rfl, Below.refl _ _⟩
      obtain ⟨k, hk, rfl, hBL⟩ := hrel
      by_cases hlt : k < 7
      case pos =>
        obtain ⟨⟨pA, pts⟩, hp⟩ : ∃ p, T[k]? = some p := ⟨_, List.getElem?_eq_getElem (by omega)⟩
        have HP := Lib.hid (HNA.out.no (pA, pts) (List.mem_of_getElem? hp))
        have HTA := Lib.hid (HNA.out.each (pA, pts) (List.mem_of_getElem? hp))
        have c0 : wr.cell? ⟨bN, k, none⟩ = some (.slice pA pts.length pts.length) := (HNA.out.keep hBL).arr.cell (j := k) (by rw [List.getElem?_map, hp]; rfl)
        have zc := cell_lt c0
        have hkI : (k : Int) < 7 := by omega
        have h0k : (0 : Int) ≤ k := by omega
        have HWB : Below w.heap.size w wr := EFB.out.trans (hBL.mono EFB.out.size)
        clear hp
        go_wp2_with fail
        refine' wp_region_box (fun w' => Below wr.heap.size wr w') (fun a b h h' => gr_trans h h') [1, 2, 3, 4] 7 577 (by kernel_rfl) (by kernel_rfl) rfl (by kernel_rfl) (by kernel_rfl) rfl (by kernel_rfl) ?hl31 (Below.refl _ _) ?hq31 ?hr31
        case hl31 =>
          simp only [List.map_cons, List.map_nil, List.getD_cons_zero, List.getD_cons_succ]
          exact rfl
        case hq31 =>
          intro w0 K
          have m0 := cell_keep K c0
          have m1 : bN < w0.heap.size := cell_lt m0
          (repeat (go_big_quiet_step (fail)))
          exact wpQuiet_nil rfl
        refine wpUp_one (i := 0) (by kernel_rfl) rfl rfl (fun wa u1 u2 Ka hKa => ?_)
        go_simp
        refine (floor_any wa).mono ?_
        rintro e wb ⟨a0, a1, a2, a3, a4, a5, a6, rfl, hF, hb⟩
        have hXb := gr_trans u2 hb
        refine hKa _ _ hXb ?_
        refine wpUp_one (i := 5) (by kernel_rfl) rfl rfl (fun wc e1 e2 Kb hKb => ?_)
        go_simp
        have HWC : Below w.heap.size w wc := HWB.trans (e2.mono HWB.size)
        refine (not_call (A := pA) (ts := pts) HP.out a0 a1 a2 a3 a4 a5 a6 (HL.out.next HWC) (hF.to e1) (HTA.out.to (gr_trans hBL e2))).mono ?_
        rintro e wd ⟨rfl, hb2⟩
        have hXd := gr_trans e2 hb2
        refine hKb _ _ hXd ?_
        refine' wpUp_more (fun a b h h' => gr_trans h h') [6, 7, 8, 9, 10] 0 577 (by kernel_rfl) (by kernel_rfl) (by kernel_rfl) rfl (by kernel_rfl) rfl ?hl31b hXd ?hq31b ?hr31b
        case hl31b =>
          simp only [List.map_cons, List.map_nil, List.getD_cons_zero, List.getD_cons_succ]
          exact rfl
        case hq31b =>
          intro w0 K
          (repeat (go_big_quiet_step (fail)))
          exact wpQuiet_nil rfl
        refine wpUp_done (by kernel_rfl) (fun W9 g1 g2 => NoPanic.normal ?_)
        have hE9 := gr_trans hBL g2
        clear hKa hKb u1 u2 e1 e2 hXb hXd hb hb2 g1 g2 c0 zc hF HWC
        go_wp2_with fail
        exact ⟨⟨k + 1, by omega, by go_num, hE9⟩, by simp [intOf]; omega⟩
      obtain rfl : k = 7 := by omega
      have WeB := EFB.out.trans (hBL.mono EFB.out.size)
      go_wp2_with fail
      go_meet
      exact WeB
  obtain ⟨We, rfl⟩ : ∃ T : World, T = wc := ⟨_, rfl⟩
  have WeB := Lib.hid hcut
  clear hcut EFB HNA hT7
  try clear T
  try clear WaB
  try clear U1
  try clear U2
  try clear U3
  try clear U4
  try clear U5
  try clear U6
  try clear U7
  try clear U8
  try clear U9
  try clear U10
  try clear U11
  try clear U12
  try clear U13
  try clear U14
  try clear U15
  try clear U16
  try clear EF
  try clear Wa
  go_upto_region 35 with fail
  obtain ⟨EG, hEG⟩ : ∃ W, W = (((((((((((((((((We.alloc (.cells #[vi 0, vi 1, vi 2] 3)).alloc (.cells #[.slice (pt (We.heap.size)) 3 3] 22)).alloc (.cells #[vi 0, vi 1, vi 2, vi 3, vi 3] 3)).alloc (.cells #[.slice (pt (We.heap.size + 1 + 1)) 5 5] 22)).alloc (.cells #[vi 0, vi 1] 3)).alloc (.cells #[vi 2, vi 4] 3)).alloc (.cells #[.slice (pt (We.heap.size + 1 + 1 + 1 + 1)) 2 2, .slice (pt (We.heap.size + 1 + 1 + 1 + 1 + 1)) 2 2] 22)).alloc (.cells #[vi 0, vi 1, vi 2, vi 3] 3)).alloc (.cells #[] 3)).alloc (.cells #[] 3)).alloc (.cells #[] 3)).alloc (.cells #[] 3)).alloc (.cells #[] 3)).alloc (.cells #[.slice (pt (We.heap.size + 1 + 1 + 1 + 1 + 1 + 1 + 1)) 4 4, .slice (pt (We.heap.size + 1 + 1 + 1 + 1 + 1 + 1 + 1 + 1)) 0 0, .slice (pt (We.heap.size + 1 + 1 + 1 + 1 + 1 + 1 + 1 + 1 + 1)) 0 0, .slice (pt (We.heap.size + 1 + 1 + 1 + 1 + 1 + 1 + 1 + 1 + 1 + 1)) 0 0, .slice (pt (We.heap.size + 1 + 1 + 1 + 1 + 1 + 1 + 1 + 1 + 1 + 1 + 1)) 0 0, .slice (pt (We.heap.size + 1 + 1 + 1 + 1 + 1 + 1 + 1 + 1 + 1 + 1 + 1 + 1)) 0 0] 22)).alloc (.cells #[vi 0, vi 1, vi 2, vi (-1)] 3)).alloc (.cells #[.slice (pt (We.heap.size + 1 + 1 + 1 + 1 + 1 + 1 + 1 + 1 + 1 + 1 + 1 + 1 + 1 + 1)) 4 4] 22)).alloc (.cells #[.slice none 0 0, .slice (pt (We.heap.size + 1)) 1 1, .slice (pt (We.heap.size + 1 + 1 + 1)) 1 1, .slice (pt (We.heap.size + 1 + 1 + 1 + 1 + 1 + 1)) 2 2, .slice (pt (We.heap.size + 1 + 1 + 1 + 1 + 1 + 1 + 1 + 1 + 1 + 1 + 1 + 1 + 1)) 6 6, .slice (pt (We.heap.size + 1 + 1 + 1 + 1 + 1 + 1 + 1 + 1 + 1 + 1 + 1 + 1 + 1 + 1 + 1)) 1 1] 43)) := ⟨_, rfl⟩
  obtain ⟨bO, hbO⟩ : ∃ b, b = We.heap.size + 1 + 1 + 1 + 1 + 1 + 1 + 1 + 1 + 1 + 1 + 1 + 1 + 1 + 1 + 1 + 1 := ⟨_, rfl⟩
  rw [← hEG, ← hbO]
  have hBG : Below We.heap.size We EG := by rw [hEG]; exact ((((((((((((((((((Below.refl We.heap.size We).alloc (by first | exact Nat.le_refl _ | (simp; done) | (simp; omega)) _).alloc (by first | exact Nat.le_refl _ | (simp; done) | (simp; omega)) _).alloc (by first | exact Nat.le_refl _ | (simp; done) | (simp; omega)) _).alloc (by first | exact Nat.le_refl _ | (simp; done) | (simp; omega)) _).alloc (by first | exact Nat.le_refl _ | (simp; done) | (simp; omega)) _).alloc (by first | exact Nat.le_refl _ | (simp; done) | (simp; omega)) _).alloc (by first | exact Nat.le_refl _ | (simp; done) | (simp; omega)) _).alloc (by first | exact Nat.le_refl _ | (simp; done) | (simp; omega)) _).alloc (by first | exact Nat.le_refl _ | (simp; done) | (simp; omega)) _).alloc (by first | exact Nat.le_refl _ | (simp; done) | (simp; omega)) _).alloc (by first | exact Nat.le_refl _ | (simp; done) | (simp; omega)) _).alloc (by first | exact Nat.le_refl _ | (simp; done) | (simp; omega)) _).alloc (by first | exact Nat.le_refl _ | (simp; done) | (simp; omega)) _).alloc (by first | exact Nat.le_refl _ | (simp; done) | (simp; omega)) _).alloc (by first | exact Nat.le_refl _ | (simp; done) | (simp; omega)) _).alloc (by first | exact Nat.le_refl _ | (simp; done) | (simp; omega)) _).alloc (by first | exact Nat.le_refl _ | (simp; done) | (simp; omega)) _)
  have r0 : CellsBox EG (We.heap.size) 3 [vi 0, vi 1, vi 2] := by
    have h := CellsBox.new We 3 [vi 0, vi 1, vi 2]
    rw [hEG]; exact ((((((((((((((((h.alloc _).alloc _).alloc _).alloc _).alloc _).alloc _).alloc _).alloc _).alloc _).alloc _).alloc _).alloc _).alloc _).alloc _).alloc _).alloc _)
  have r1 : CellsBox EG (We.heap.size + 1) 22 [.slice (pt (We.heap.size)) 3 3] := by
    have h := CellsBox.new (We.alloc (.cells #[vi 0, vi 1, vi 2] 3)) 22 [.slice (pt (We.heap.size)) 3 3]
    simp only [World.size_alloc] at h
    rw [hEG]; exact (((((((((((((((h.alloc _).alloc _).alloc _).alloc _).alloc _).alloc _).alloc _).alloc _).alloc _).alloc _).alloc _).alloc _).alloc _).alloc _).alloc _)
  have r2 : CellsBox EG (We.heap.size + 1 + 1) 3 [vi 0, vi 1, vi 2, vi 3, vi 3] := by
    have h := CellsBox.new ((We.alloc (.cells #[vi 0, vi 1, vi 2] 3)).alloc (.cells #[.slice (pt (We.heap.size)) 3 3] 22)) 3 [vi 0, vi 1, vi 2, vi 3, vi 3]
    simp only [World.size_alloc] at h
    rw [hEG]; exact ((((((((((((((h.alloc _).alloc _).alloc _).alloc _).alloc _).alloc _).alloc _).alloc _).alloc _).alloc _).alloc _).alloc _).alloc _).alloc _)
  have r3 : CellsBox EG (We.heap.size + 1 + 1 + 1) 22 [.slice (pt (We.heap.size + 1 + 1)) 5 5] := by
    have h := CellsBox.new (((We.alloc (.cells #[vi 0, vi 1, vi 2] 3)).alloc (.cells #[.slice (pt (We.heap.size)) 3 3] 22)).alloc (.cells #[vi 0, vi 1, vi 2, vi 3, vi 3] 3)) 22 [.slice (pt (We.heap.size + 1 + 1)) 5 5]
    simp only [World.size_alloc] at h
    rw [hEG]; exact (((((((((((((h.alloc _).alloc _).alloc _).alloc _).alloc _).alloc _).alloc _).alloc _).alloc _).alloc _).alloc _).alloc _).alloc _)
  have r4 : CellsBox EG (We.heap.size + 1 + 1 + 1 + 1) 3 [vi 0, vi 1] := by
    have h := CellsBox.new ((((We.alloc (.cells #[vi 0, vi 1, vi 2] 3)).alloc (.cells #[.slice (pt (We.heap.size)) 3 3] 22)).alloc (.cells #[vi 0, vi 1, vi 2, vi 3, vi 3] 3)).alloc (.cells #[.slice (pt (We.heap.size + 1 + 1)) 5 5] 22)) 3 [vi 0, vi 1]
    simp only [World.size_alloc] at h
    rw [hEG]; exact ((((((((((((h.alloc _).alloc _).alloc _).alloc _).alloc _).alloc _).alloc _).alloc _).alloc _).alloc _).alloc _).alloc _)
  have r5 : CellsBox EG (We.heap.size + 1 + 1 + 1 + 1 + 1) 3 [vi 2, vi 4] := by
    have h := CellsBox.new (((((We.alloc (.cells #[vi 0, vi 1, vi 2] 3)).alloc (.cells #[.slice (pt (We.heap.size)) 3 3] 22)).alloc (.cells #[vi 0, vi 1, vi 2, vi 3, vi 3] 3)).alloc (.cells #[.slice (pt (We.heap.size + 1 + 1)) 5 5] 22)).alloc (.cells #[vi 0, vi 1] 3)) 3 [vi 2, vi 4]
    simp only [World.size_alloc] at h
    rw [hEG]; exact (((((((((((h.alloc _).alloc _).alloc _).alloc _).alloc _).alloc _).alloc _).alloc _).alloc _).alloc _).alloc _)
  have r6 : CellsBox EG (We.heap.size + 1 + 1 + 1 + 1 + 1 + 1) 22 [.slice (pt (We.heap.size + 1 + 1 + 1 + 1)) 2 2, .slice (pt (We.heap.size + 1 + 1 + 1 + 1 + 1)) 2 2] := by
    have h := CellsBox.new ((((((We.alloc (.cells #[vi 0, vi 1, vi 2] 3)).alloc (.cells #[.slice (pt (We.heap.size)) 3 3] 22)).alloc (.cells #[vi 0, vi 1, vi 2, vi 3, vi 3] 3)).alloc (.cells #[.slice (pt (We.heap.size + 1 + 1)) 5 5] 22)).alloc (.cells #[vi 0, vi 1] 3)).alloc (.cells #[vi 2, vi 4] 3)) 22 [.slice (pt (We.heap.size + 1 + 1 + 1 + 1)) 2 2, .slice (pt (We.heap.size + 1 + 1 + 1 + 1 + 1)) 2 2]
    simp only [World.size_alloc] at h
    rw [hEG]; exact ((((((((((h.alloc _).alloc _).alloc _).alloc _).alloc _).alloc _).alloc _).alloc _).alloc _).alloc _)
  have r7 : CellsBox EG (We.heap.size + 1 + 1 + 1 + 1 + 1 + 1 + 1) 3 [vi 0, vi 1, vi 2, vi 3] := by
    have h := CellsBox.new (((((((We.alloc (.cells #[vi 0, vi 1, vi 2] 3)).alloc (.cells #[.slice (pt (We.heap.size)) 3 3] 22)).alloc (.cells #[vi 0, vi 1, vi 2, vi 3, vi 3] 3)).alloc (.cells #[.slice (pt (We.heap.size + 1 + 1)) 5 5] 22)).alloc (.cells #[vi 0, vi 1] 3)).alloc (.cells #[vi 2, vi 4] 3)).alloc (.cells #[.slice (pt (We.heap.size + 1 + 1 + 1 + 1)) 2 2, .slice (pt (We.heap.size + 1 + 1 + 1 + 1 + 1)) 2 2] 22)) 3 [vi 0, vi 1, vi 2, vi 3]
    simp only [World.size_alloc] at h
    rw [hEG]; exact (((((((((h.alloc _).alloc _).alloc _).alloc _).alloc _).alloc _).alloc _).alloc _).alloc _)
  have r8 : CellsBox EG (We.heap.size + 1 + 1 + 1 + 1 + 1 + 1 + 1 + 1) 3 [] := by
    have h := CellsBox.new ((((((((We.alloc (.cells #[vi 0, vi 1, vi 2] 3)).alloc (.cells #[.slice (pt (We.heap.size)) 3 3] 22)).alloc (.cells #[vi 0, vi 1, vi 2, vi 3, vi 3] 3)).alloc (.cells #[.slice (pt (We.heap.size + 1 + 1)) 5 5] 22)).alloc (.cells #[vi 0, vi 1] 3)).alloc (.cells #[vi 2, vi 4] 3)).alloc (.cells #[.slice (pt (We.heap.size + 1 + 1 + 1 + 1)) 2 2, .slice (pt (We.heap.size + 1 + 1 + 1 + 1 + 1)) 2 2] 22)).alloc (.cells #[vi 0, vi 1, vi 2, vi 3] 3)) 3 []
    simp only [World.size_alloc] at h
    rw [hEG]; exact ((((((((h.alloc _).alloc _).alloc _).alloc _).alloc _).alloc _).alloc _).alloc _)
  have r9 : CellsBox EG (We.heap.size + 1 + 1 + 1 + 1 + 1 + 1 + 1 + 1 + 1) 3 [] := by
    have h := CellsBox.new (((((((((We.alloc (.cells #[vi 0, vi 1, vi 2] 3)).alloc (.cells #[.slice (pt (We.heap.size)) 3 3] 22)).alloc (.cells #[vi 0, vi 1, vi 2, vi 3, vi 3] 3)).alloc (.cells #[.slice (pt (We.heap.size + 1 + 1)) 5 5] 22)).alloc (.cells #[vi 0, vi 1] 3)).alloc (.cells #[vi 2, vi 4] 3)).alloc (.cells #[.slice (pt (We.heap.size + 1 + 1 + 1 + 1)) 2 2, .slice (pt (We.heap.size + 1 + 1 + 1 + 1 + 1)) 2 2] 22)).alloc (.cells #[vi 0, vi 1, vi 2, vi 3] 3)).alloc (.cells #[] 3)) 3 []
    simp only [World.size_alloc] at h
    rw [hEG]; exact (((((((h.alloc _).alloc _).alloc _).alloc _).alloc _).alloc _).alloc _)
  have r10 : CellsBox EG (We.heap.size + 1 + 1 + 1 + 1 + 1 + 1 + 1 + 1 + 1 + 1) 3 [] := by
    have h := CellsBox.new ((((((((((We.alloc (.cells #[vi 0, vi 1, vi 2] 3)).alloc (.cells #[.slice (pt (We.heap.size)) 3 3] 22)).alloc (.cells #[vi 0, vi 1, vi 2, vi 3, vi 3] 3)).alloc (.cells #[.slice (pt (We.heap.size + 1 + 1)) 5 5] 22)).alloc (.cells #[vi 0, vi 1] 3)).alloc (.cells #[vi 2, vi 4] 3)).alloc (.cells #[.slice (pt (We.heap.size + 1 + 1 + 1 + 1)) 2 2, .slice (pt (We.heap.size + 1 + 1 + 1 + 1 + 1)) 2 2] 22)).alloc (.cells #[vi 0, vi 1, vi 2, vi 3] 3)).alloc (.cells #[] 3)).alloc (.cells #[] 3)) 3 []
    simp only [World.size_alloc] at h
    rw [hEG]; exact ((((((h.alloc _).alloc _).alloc _).alloc _).alloc _).alloc _)
  have r11 : CellsBox EG (We.heap.size + 1 + 1 + 1 + 1 + 1 + 1 + 1 + 1 + 1 + 1 + 1) 3 [] := by
    have h := CellsBox.new (((((((((((We.alloc (.cells #[vi 0, vi 1, vi 2] 3)).alloc (.cells #[.slice (pt (We.heap.size)) 3 3] 22)).alloc (.cells #[vi 0, vi 1, vi 2, vi 3, vi 3] 3)).alloc (.cells #[.slice (pt (We.heap.size + 1 + 1)) 5 5] 22)).alloc (.cells #[vi 0, vi 1] 3)).alloc (.cells #[vi 2, vi 4] 3)).alloc (.cells #[.slice (pt (We.heap.size + 1 + 1 + 1 + 1)) 2 2, .slice (pt (We.heap.size + 1 + 1 + 1 + 1 + 1)) 2 2] 22)).alloc (.cells #[vi 0, vi 1, vi 2, vi 3] 3)).alloc (.cells #[] 3)).alloc (.cells #[] 3)).alloc (.cells #[] 3)) 3 []
    simp only [World.size_alloc] at h
    rw [hEG]; exact (((((h.alloc _).alloc _).alloc _).alloc _).alloc _)
  have r12 : CellsBox EG (We.heap.size + 1 + 1 + 1 + 1 + 1 + 1 + 1 + 1 + 1 + 1 + 1 + 1) 3 [] := by
    have h := CellsBox.new ((((((((((((We.alloc (.cells #[vi 0, vi 1, vi 2] 3)).alloc (.cells #[.slice (pt (We.heap.size)) 3 3] 22)).alloc (.cells #[vi 0, vi 1, vi 2, vi 3, vi 3] 3)).alloc (.cells #[.slice (pt (We.heap.size + 1 + 1)) 5 5] 22)).alloc (.cells #[vi 0, vi 1] 3)).alloc (.cells #[vi 2, vi 4] 3)).alloc (.cells #[.slice (pt (We.heap.size + 1 + 1 + 1 + 1)) 2 2, .slice (pt (We.heap.size + 1 + 1 + 1 + 1 + 1)) 2 2] 22)).alloc (.cells #[vi 0, vi 1, vi 2, vi 3] 3)).alloc (.cells #[] 3)).alloc (.cells #[] 3)).alloc (.cells #[] 3)).alloc (.cells #[] 3)) 3 []
    simp only [World.size_alloc] at h
    rw [hEG]; exact ((((h.alloc _).alloc _).alloc _).alloc _)
  have r13 : CellsBox EG (We.heap.size + 1 + 1 + 1 + 1 + 1 + 1 + 1 + 1 + 1 + 1 + 1 + 1 + 1) 22 [.slice (pt (We.heap.size + 1 + 1 + 1 + 1 + 1 + 1 + 1)) 4 4, .slice (pt (We.heap.size + 1 + 1 + 1 + 1 + 1 + 1 + 1 + 1)) 0 0, .slice (pt (We.heap.size + 1 + 1 + 1 + 1 + 1 + 1 + 1 + 1 + 1)) 0 0, .slice (pt (We.heap.size + 1 + 1 + 1 + 1 + 1 + 1 + 1 + 1 + 1 + 1)) 0 0, .slice (pt (We.heap.size + 1 + 1 + 1 + 1 + 1 + 1 + 1 + 1 + 1 + 1 + 1)) 0 0, .slice (pt (We.heap.size + 1 + 1 + 1 + 1 + 1 + 1 + 1 + 1 + 1 + 1 + 1 + 1)) 0 0] := by
    have h := CellsBox.new (((((((((((((We.alloc (.cells #[vi 0, vi 1, vi 2] 3)).alloc (.cells #[.slice (pt (We.heap.size)) 3 3] 22)).alloc (.cells #[vi 0, vi 1, vi 2, vi 3, vi 3] 3)).alloc (.cells #[.slice (pt (We.heap.size + 1 + 1)) 5 5] 22)).alloc (.cells #[vi 0, vi 1] 3)).alloc (.cells #[vi 2, vi 4] 3)).alloc (.cells #[.slice (pt (We.heap.size + 1 + 1 + 1 + 1)) 2 2, .slice (pt (We.heap.size + 1 + 1 + 1 + 1 + 1)) 2 2] 22)).alloc (.cells #[vi 0, vi 1, vi 2, vi 3] 3)).alloc (.cells #[] 3)).alloc (.cells #[] 3)).alloc (.cells #[] 3)).alloc (.cells #[] 3)).alloc (.cells #[] 3)) 22 [.slice (pt (We.heap.size + 1 + 1 + 1 + 1 + 1 + 1 + 1)) 4 4, .slice (pt (We.heap.size + 1 + 1 + 1 + 1 + 1 + 1 + 1 + 1)) 0 0, .slice (pt (We.heap.size + 1 + 1 + 1 + 1 + 1 + 1 + 1 + 1 + 1)) 0 0, .slice (pt (We.heap.size + 1 + 1 + 1 + 1 + 1 + 1 + 1 + 1 + 1 + 1)) 0 0, .slice (pt (We.heap.size + 1 + 1 + 1 + 1 + 1 + 1 + 1 + 1 + 1 + 1 + 1)) 0 0, .slice (pt (We.heap.size + 1 + 1 + 1 + 1 + 1 + 1 + 1 + 1 + 1 + 1 + 1 + 1)) 0 0]
    simp only [World.size_alloc] at h
    rw [hEG]; exact (((h.alloc _).alloc _).alloc _)
  have r14 : CellsBox EG (We.heap.size + 1 + 1 + 1 + 1 + 1 + 1 + 1 + 1 + 1 + 1 + 1 + 1 + 1 + 1) 3 [vi 0, vi 1, vi 2, vi (-1)] := by
    have h := CellsBox.new ((((((((((((((We.alloc (.cells #[vi 0, vi 1, vi 2] 3)).alloc (.cells #[.slice (pt (We.heap.size)) 3 3] 22)).alloc (.cells #[vi 0, vi 1, vi 2, vi 3, vi 3] 3)).alloc (.cells #[.slice (pt (We.heap.size + 1 + 1)) 5 5] 22)).alloc (.cells #[vi 0, vi 1] 3)).alloc (.cells #[vi 2, vi 4] 3)).alloc (.cells #[.slice (pt (We.heap.size + 1 + 1 + 1 + 1)) 2 2, .slice (pt (We.heap.size + 1 + 1 + 1 + 1 + 1)) 2 2] 22)).alloc (.cells #[vi 0, vi 1, vi 2, vi 3] 3)).alloc (.cells #[] 3)).alloc (.cells #[] 3)).alloc (.cells #[] 3)).alloc (.cells #[] 3)).alloc (.cells #[] 3)).alloc (.cells #[.slice (pt (We.heap.size + 1 + 1 + 1 + 1 + 1 + 1 + 1)) 4 4, .slice (pt (We.heap.size + 1 + 1 + 1 + 1 + 1 + 1 + 1 + 1)) 0 0, .slice (pt (We.heap.size + 1 + 1 + 1 + 1 + 1 + 1 + 1 + 1 + 1)) 0 0, .slice (pt (We.heap.size + 1 + 1 + 1 + 1 + 1 + 1 + 1 + 1 + 1 + 1)) 0 0, .slice (pt (We.heap.size + 1 + 1 + 1 + 1 + 1 + 1 + 1 + 1 + 1 + 1 + 1)) 0 0, .slice (pt (We.heap.size + 1 + 1 + 1 + 1 + 1 + 1 + 1 + 1 + 1 + 1 + 1 + 1)) 0 0] 22)) 3 [vi 0, vi 1, vi 2, vi (-1)]
    simp only [World.size_alloc] at h
    rw [hEG]; exact ((h.alloc _).alloc _)
  have r15 : CellsBox EG (We.heap.size + 1 + 1 + 1 + 1 + 1 + 1 + 1 + 1 + 1 + 1 + 1 + 1 + 1 + 1 + 1) 22 [.slice (pt (We.heap.size + 1 + 1 + 1 + 1 + 1 + 1 + 1 + 1 + 1 + 1 + 1 + 1 + 1 + 1)) 4 4] := by
    have h := CellsBox.new (((((((((((((((We.alloc (.cells #[vi 0, vi 1, vi 2] 3)).alloc (.cells #[.slice (pt (We.heap.size)) 3 3] 22)).alloc (.cells #[vi 0, vi 1, vi 2, vi 3, vi 3] 3)).alloc (.cells #[.slice (pt (We.heap.size + 1 + 1)) 5 5] 22)).alloc (.cells #[vi 0, vi 1] 3)).alloc (.cells #[vi 2, vi 4] 3)).alloc (.cells #[.slice (pt (We.heap.size + 1 + 1 + 1 + 1)) 2 2, .slice (pt (We.heap.size + 1 + 1 + 1 + 1 + 1)) 2 2] 22)).alloc (.cells #[vi 0, vi 1, vi 2, vi 3] 3)).alloc (.cells #[] 3)).alloc (.cells #[] 3)).alloc (.cells #[] 3)).alloc (.cells #[] 3)).alloc (.cells #[] 3)).alloc (.cells #[.slice (pt (We.heap.size + 1 + 1 + 1 + 1 + 1 + 1 + 1)) 4 4, .slice (pt (We.heap.size + 1 + 1 + 1 + 1 + 1 + 1 + 1 + 1)) 0 0, .slice (pt (We.heap.size + 1 + 1 + 1 + 1 + 1 + 1 + 1 + 1 + 1)) 0 0, .slice (pt (We.heap.size + 1 + 1 + 1 + 1 + 1 + 1 + 1 + 1 + 1 + 1)) 0 0, .slice (pt (We.heap.size + 1 + 1 + 1 + 1 + 1 + 1 + 1 + 1 + 1 + 1 + 1)) 0 0, .slice (pt (We.heap.size + 1 + 1 + 1 + 1 + 1 + 1 + 1 + 1 + 1 + 1 + 1 + 1)) 0 0] 22)).alloc (.cells #[vi 0, vi 1, vi 2, vi (-1)] 3)) 22 [.slice (pt (We.heap.size + 1 + 1 + 1 + 1 + 1 + 1 + 1 + 1 + 1 + 1 + 1 + 1 + 1 + 1)) 4 4]
    simp only [World.size_alloc] at h
    rw [hEG]; exact (h.alloc _)
  have r16 : CellsBox EG (We.heap.size + 1 + 1 + 1 + 1 + 1 + 1 + 1 + 1 + 1 + 1 + 1 + 1 + 1 + 1 + 1 + 1) 43 [.slice none 0 0, .slice (pt (We.heap.size + 1)) 1 1, .slice (pt (We.heap.size + 1 + 1 + 1)) 1 1, .slice (pt (We.heap.size + 1 + 1 + 1 + 1 + 1 + 1)) 2 2, .slice (pt (We.heap.size + 1 + 1 + 1 + 1 + 1 + 1 + 1 + 1 + 1 + 1 + 1 + 1 + 1)) 6 6, .slice (pt (We.heap.size + 1 + 1 + 1 + 1 + 1 + 1 + 1 + 1 + 1 + 1 + 1 + 1 + 1 + 1 + 1)) 1 1] := by
    have h := CellsBox.new ((((((((((((((((We.alloc (.cells #[vi 0, vi 1, vi 2] 3)).alloc (.cells #[.slice (pt (We.heap.size)) 3 3] 22)).alloc (.cells #[vi 0, vi 1, vi 2, vi 3, vi 3] 3)).alloc (.cells #[.slice (pt (We.heap.size + 1 + 1)) 5 5] 22)).alloc (.cells #[vi 0, vi 1] 3)).alloc (.cells #[vi 2, vi 4] 3)).alloc (.cells #[.slice (pt (We.heap.size + 1 + 1 + 1 + 1)) 2 2, .slice (pt (We.heap.size + 1 + 1 + 1 + 1 + 1)) 2 2] 22)).alloc (.cells #[vi 0, vi 1, vi 2, vi 3] 3)).alloc (.cells #[] 3)).alloc (.cells #[] 3)).alloc (.cells #[] 3)).alloc (.cells #[] 3)).alloc (.cells #[] 3)).alloc (.cells #[.slice (pt (We.heap.size + 1 + 1 + 1 + 1 + 1 + 1 + 1)) 4 4, .slice (pt (We.heap.size + 1 + 1 + 1 + 1 + 1 + 1 + 1 + 1)) 0 0, .slice (pt (We.heap.size + 1 + 1 + 1 + 1 + 1 + 1 + 1 + 1 + 1)) 0 0, .slice (pt (We.heap.size + 1 + 1 + 1 + 1 + 1 + 1 + 1 + 1 + 1 + 1)) 0 0, .slice (pt (We.heap.size + 1 + 1 + 1 + 1 + 1 + 1 + 1 + 1 + 1 + 1 + 1)) 0 0, .slice (pt (We.heap.size + 1 + 1 + 1 + 1 + 1 + 1 + 1 + 1 + 1 + 1 + 1 + 1)) 0 0] 22)).alloc (.cells #[vi 0, vi 1, vi 2, vi (-1)] 3)).alloc (.cells #[.slice (pt (We.heap.size + 1 + 1 + 1 + 1 + 1 + 1 + 1 + 1 + 1 + 1 + 1 + 1 + 1 + 1)) 4 4] 22)) 43 [.slice none 0 0, .slice (pt (We.heap.size + 1)) 1 1, .slice (pt (We.heap.size + 1 + 1 + 1)) 1 1, .slice (pt (We.heap.size + 1 + 1 + 1 + 1 + 1 + 1)) 2 2, .slice (pt (We.heap.size + 1 + 1 + 1 + 1 + 1 + 1 + 1 + 1 + 1 + 1 + 1 + 1 + 1)) 6 6, .slice (pt (We.heap.size + 1 + 1 + 1 + 1 + 1 + 1 + 1 + 1 + 1 + 1 + 1 + 1 + 1 + 1 + 1)) 1 1]
    simp only [World.size_alloc] at h
    rw [hEG]; exact h
  obtain ⟨TR, hTR⟩ : ∃ T : List (Option Addr × List SRow), T = [(none, []), (pt (We.heap.size + 1), [(⟨pt (We.heap.size), 3, [0, 1, 2]⟩ : SRow)]), (pt (We.heap.size + 1 + 1 + 1), [(⟨pt (We.heap.size + 1 + 1), 5, [0, 1, 2, 3, 3]⟩ : SRow)]), (pt (We.heap.size + 1 + 1 + 1 + 1 + 1 + 1), [(⟨pt (We.heap.size + 1 + 1 + 1 + 1), 2, [0, 1]⟩ : SRow), (⟨pt (We.heap.size + 1 + 1 + 1 + 1 + 1), 2, [2, 4]⟩ : SRow)]), (pt (We.heap.size + 1 + 1 + 1 + 1 + 1 + 1 + 1 + 1 + 1 + 1 + 1 + 1 + 1), [(⟨pt (We.heap.size + 1 + 1 + 1 + 1 + 1 + 1 + 1), 4, [0, 1, 2, 3]⟩ : SRow), (⟨pt (We.heap.size + 1 + 1 + 1 + 1 + 1 + 1 + 1 + 1), 0, []⟩ : SRow), (⟨pt (We.heap.size + 1 + 1 + 1 + 1 + 1 + 1 + 1 + 1 + 1), 0, []⟩ : SRow), (⟨pt (We.heap.size + 1 + 1 + 1 + 1 + 1 + 1 + 1 + 1 + 1 + 1), 0, []⟩ : SRow), (⟨pt (We.heap.size + 1 + 1 + 1 + 1 + 1 + 1 + 1 + 1 + 1 + 1 + 1), 0, []⟩ : SRow), (⟨pt (We.heap.size + 1 + 1 + 1 + 1 + 1 + 1 + 1 + 1 + 1 + 1 + 1 + 1), 0, []⟩ : SRow)]), (pt (We.heap.size + 1 + 1 + 1 + 1 + 1 + 1 + 1 + 1 + 1 + 1 + 1 + 1 + 1 + 1 + 1), [(⟨pt (We.heap.size + 1 + 1 + 1 + 1 + 1 + 1 + 1 + 1 + 1 + 1 + 1 + 1 + 1 + 1), 4, [0, 1, 2, -1]⟩ : SRow)])] := ⟨_, rfl⟩
  have hNO : NoAt EG bO TR := by
    rw [hTR, hbO]
    refine ⟨r16, fun p hp => ?_, fun p hp => ?_⟩
    · simp only [List.mem_cons, List.not_mem_nil, or_false] at hp
      rcases hp with rfl | rfl | rfl | rfl | rfl | rfl
      · exact ⟨rows_none' _ 1, fun t ht => by simp at ht⟩
      · refine roster_of (ts := [(⟨pt (We.heap.size), 3, [0, 1, 2]⟩ : SRow)]) r1 rfl (by simp) fun t ht => ?_
        simp only [List.mem_cons, List.not_mem_nil, or_false] at ht
        subst ht
        exact ints_from (l := [0, 1, 2]) r0 rfl (by simp)
      · refine roster_of (ts := [(⟨pt (We.heap.size + 1 + 1), 5, [0, 1, 2, 3, 3]⟩ : SRow)]) r3 rfl (by simp) fun t ht => ?_
        simp only [List.mem_cons, List.not_mem_nil, or_false] at ht
        subst ht
        exact ints_from (l := [0, 1, 2, 3, 3]) r2 rfl (by simp)
      · refine roster_of (ts := [(⟨pt (We.heap.size + 1 + 1 + 1 + 1), 2, [0, 1]⟩ : SRow), (⟨pt (We.heap.size + 1 + 1 + 1 + 1 + 1), 2, [2, 4]⟩ : SRow)]) r6 rfl (by simp) fun t ht => ?_
        simp only [List.mem_cons, List.not_mem_nil, or_false] at ht
        rcases ht with rfl | rfl
        · exact ints_from (l := [0, 1]) r4 rfl (by simp)
        · exact ints_from (l := [2, 4]) r5 rfl (by simp)
      · refine roster_of (ts := [(⟨pt (We.heap.size + 1 + 1 + 1 + 1 + 1 + 1 + 1), 4, [0, 1, 2, 3]⟩ : SRow), (⟨pt (We.heap.size + 1 + 1 + 1 + 1 + 1 + 1 + 1 + 1), 0, []⟩ : SRow), (⟨pt (We.heap.size + 1 + 1 + 1 + 1 + 1 + 1 + 1 + 1 + 1), 0, []⟩ : SRow), (⟨pt (We.heap.size + 1 + 1 + 1 + 1 + 1 + 1 + 1 + 1 + 1 + 1), 0, []⟩ : SRow), (⟨pt (We.heap.size + 1 + 1 + 1 + 1 + 1 + 1 + 1 + 1 + 1 + 1 + 1), 0, []⟩ : SRow), (⟨pt (We.heap.size + 1 + 1 + 1 + 1 + 1 + 1 + 1 + 1 + 1 + 1 + 1 + 1), 0, []⟩ : SRow)]) r13 rfl (by simp) fun t ht => ?_
        simp only [List.mem_cons, List.not_mem_nil, or_false] at ht
        rcases ht with rfl | rfl | rfl | rfl | rfl | rfl
        · exact ints_from (l := [0, 1, 2, 3]) r7 rfl (by simp)
        · exact ints_from (l := []) r8 rfl (by simp)
        · exact ints_from (l := []) r9 rfl (by simp)
        · exact ints_from (l := []) r10 rfl (by simp)
        · exact ints_from (l := []) r11 rfl (by simp)
        · exact ints_from (l := []) r12 rfl (by simp)
      · refine roster_of (ts := [(⟨pt (We.heap.size + 1 + 1 + 1 + 1 + 1 + 1 + 1 + 1 + 1 + 1 + 1 + 1 + 1 + 1), 4, [0, 1, 2, -1]⟩ : SRow)]) r15 rfl (by simp) fun t ht => ?_
        simp only [List.mem_cons, List.not_mem_nil, or_false] at ht
        subst ht
        exact ints_from (l := [0, 1, 2, -1]) r14 rfl (by simp)
    · simp only [List.mem_cons, List.not_mem_nil, or_false] at hp
      rcases hp with rfl | rfl | rfl | rfl | rfl | rfl
      · intro a0 a1 a2 a3 a4 a5 a6; kernel_rfl
      · intro a0 a1 a2 a3 a4 a5 a6; kernel_rfl
      · intro a0 a1 a2 a3 a4 a5 a6; kernel_rfl
      · intro a0 a1 a2 a3 a4 a5 a6; kernel_rfl
      · intro a0 a1 a2 a3 a4 a5 a6; kernel_rfl
      · intro a0 a1 a2 a3 a4 a5 a6; kernel_rfl
  have hTR6 : TR.length = 6 := by rw [hTR]; rfl
  have EGB := Lib.hid (WeB.out.trans (hBG.mono WeB.out.size))
  have HNO := Lib.hid hNO
  clear hNO hTR hEG hbO hBG r0 r1 r2 r3 r4 r5 r6 r7 r8 r9 r10 r11 r12 r13 r14 r15 r16
  go_upto_block 4 with fail
  go_cut [] from 307 to 340 (fun wx => Below w.heap.size w wx)
  case first =>
    as_aux_lemma =>
      go_wp2_with fail
      go_loopw [24, 25, 26] (fun a _ _ wr => ∃ k : Nat, k ≤ 6 ∧ a = .int .i64 k ∧ Below EG.heap.size EG wr) (fun a _ _ _ => 6 - (intOf a).toNat)
      case atStart => exact ⟨0, Nat.zero_le _, rfl, Below.refl _ _⟩
      obtain ⟨k, hk, rfl, hBL⟩ := hrel
      by_cases hlt : k < 6
      case pos =>
        obtain ⟨⟨pA, pts⟩, hp⟩ : ∃ p, TR[k]? = some p := ⟨_, List.getElem?_eq_getElem (by omega)⟩
        have HP := Lib.hid (HNO.out.no (pA, pts) (List.mem_of_getElem? hp))
        have HTA := Lib.hid (HNO.out.each (pA, pts) (List.mem_of_getElem? hp))
        have c0 : wr.cell? ⟨bO, k, none⟩ = some (.slice pA pts.length pts.length) := (HNO.out.keep hBL).arr.cell (j := k) (by rw [List.getElem?_map, hp]; rfl)
        have zc := cell_lt c0
        have hkI : (k : Int) < 6 := by omega
        have h0k : (0 : Int) ≤ k := by omega
        have HWB : Below w.heap.size w wr := EGB.out.trans (hBL.mono EGB.out.size)
        clear hp
        go_wp2_with fail
        refine' wp_region_box (fun w' => Below wr.heap.size wr w') (fun a b h h' => gr_trans h h') [1, 2, 3, 4] 7 577 (by kernel_rfl) (by kernel_rfl) rfl (by kernel_rfl) (by kernel_rfl) rfl (by kernel_rfl) ?hl38 (Below.refl _ _) ?hq38 ?hr38
        case hl38 =>
          simp only [List.map_cons, List.map_nil, List.getD_cons_zero, List.getD_cons_succ]
          exact rfl
        case hq38 =>
          intro w0 K
          have m0 := cell_keep K c0
          have m1 : bO < w0.heap.size := cell_lt m0
          (repeat (go_big_quiet_step (fail)))
          exact wpQuiet_nil rfl
        refine wpUp_one (i := 0) (by kernel_rfl) rfl rfl (fun wa u1 u2 Ka hKa => ?_)
        go_simp
        refine (floor_any wa).mono ?_
        rintro e wb ⟨a0, a1, a2, a3, a4, a5, a6, rfl, hF, hb⟩
        have hXb := gr_trans u2 hb
        refine hKa _ _ hXb ?_
        refine wpUp_one (i := 5) (by kernel_rfl) rfl rfl (fun wc e1 e2 Kb hKb => ?_)
        go_simp
        have HWC : Below w.heap.size w wc := HWB.trans (e2.mono HWB.size)
        refine (no_call (A := pA) (ts := pts) HP.out a0 a1 a2 a3 a4 a5 a6 (HL.out.next HWC) (hF.to e1) (HTA.out.to (gr_trans hBL e2))).mono ?_
        rintro e wd ⟨xv, rfl, hb2⟩
        have hXd := gr_trans e2 hb2
        refine hKb _ _ hXd ?_
        refine' wpUp_more (fun a b h h' => gr_trans h h') [6, 7, 8, 9, 10] 0 577 (by kernel_rfl) (by kernel_rfl) (by kernel_rfl) rfl (by kernel_rfl) rfl ?hl38b hXd ?hq38b ?hr38b
        case hl38b =>
          simp only [List.map_cons, List.map_nil, List.getD_cons_zero, List.getD_cons_succ]
          exact rfl
        case hq38b =>
          intro w0 K
          (repeat (go_big_quiet_step (fail)))
          exact wpQuiet_nil rfl
        refine wpUp_done (by kernel_rfl) (fun W9 g1 g2 => NoPanic.normal ?_)
        have hE9 := gr_trans hBL g2
        clear hKa hKb u1 u2 e1 e2 hXb hXd hb hb2 g1 g2 c0 zc hF HWC
        go_wp2_with fail
        exact ⟨⟨k + 1, by omega, by go_num, hE9⟩, by simp [intOf]; omega⟩
      obtain rfl : k = 6 := by omega
      have WdB := EGB.out.trans (hBL.mono EGB.out.size)
      go_wp2_with fail
      go_meet
      exact WdB
  obtain ⟨Wd, rfl⟩ : ∃ T : World, T = wc := ⟨_, rfl⟩
  have WdB := Lib.hid hcut
  clear hcut EGB HNO hTR6
  try clear TR
  try clear WeB
  try clear EG
  try clear We
  apply_assumption
  exact tail41 w HL _ WdB _ _ _ _ _ _ _ _ _ _ _ _ _ _ _ _ _ _ _ _ _ _ _ _ _ _ _ _ _ _ _ _ _ _ _ _ _ _ _ _ _ _ _ _ _ _ _ _ _ _ _ _ _ _ _ _ _ _ _ _ _ _ _ _ _ _ _ _ _ _ _ _ _ _ _ _ _ _ _ _ _ _ _ _ _ _ _ _ _ _ _ _ _ _ _ _ _ _ _ _ _ _ _ _ _ _ _ _ _ _ _ _ _ _ _ _ _ _ _ _ _ _ _ _ _ _ _ _ _ _ _ _ _ _ _ _ _ _ _ _ _ _ _ _ _ _ _ _ _ _ _ _ _ _ _ _ _ _ _ _ _ _ _ _ _ _ _ _ _ _ _ _ _ _ _ _ _ _ _ _ _ _ _ _ _ _ _ _ _ _ _ _ _ _ _ _ _ _ _ _ _ _ _ _ _ _ _ _ _ _ _ _ _ _ _ _ _ _ _ _ _ _ _ _ _ _ _ _ _ _ _ _ _ _ _ _ _ _ _ _ _ _ _ _ _ _ _ _ _ _ _ _ _ _ _ _ _ _ _ _ _ _ _ _ _ _ _ _ _ _ _ _ _ _ _ _ _ _ _ _ _ _ _ _ _ _ _ _ _ _ _ _ _ _ _ _ _ _ _ _ _ _ _ _ _ _ _ _ _ _ _ _ _ _ _ _ _ _ _ _ _ _ _ _ _ _ _ _ _ _ _ _ _ _ _ _ _ _ _ _ _
end Go.Proofs.YtomgnpfpaodpiaaDoor
