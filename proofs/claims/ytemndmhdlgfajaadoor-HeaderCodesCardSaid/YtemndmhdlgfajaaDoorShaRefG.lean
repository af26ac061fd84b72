/- A round of the document's 64, its own theorem: one walk of all was too great for a machine. -/
import Derived.Test.YtemndmhdlgfajaaDoorShaRefF
namespace Go.Proofs.YtemndmhdlgfajaaDoor
open Go.RowKit

set_option maxRecDepth 100000 in
set_option maxHeartbeats 8000000 in
theorem round7 {w wr : World} {bk bh A gw capk capw i : Nat} {blk : List UInt8} {L : List Nat} {t : St} {x_0 x_1 x_2 x_4 x_5 x_6 x_7 x_9 x_10 x_11 x_12 x_13 x_16 x_17 x_18 x_19 x_20 x_21 x_22 x_23 x_24 x_25 x_26 x_27 x_28 x_29 x_30 x_31 x_32 x_33 x_34 x_35 x_36 x_37 x_38 x_39 x_40 x_41 x_42 x_43 x_44 x_45 x_46 x_47 x_48 x_49 x_50 x_51 x_52 x_53 x_54 x_55 x_56 x_57 x_58 x_59 x_60 x_61 x_62 x_63 x_64 x_65 x_66 x_67 x_68 x_69 x_70 x_71 x_72 x_73 x_74 x_75 x_76 x_77 x_78 x_79 x_80 x_81 x_82 x_83 x_84 x_85 x_86 x_87 x_88 x_89 x_90 x_91 x_92 x_93 x_94 x_95 x_96 x_97 x_98 x_99 x_100 x_101 x_102 x_103 x_104 x_105 x_106 x_107 x_108 x_109 x_110 x_111 x_112 x_113 x_114 x_115 x_116 x_117 x_118 x_119 x_120 x_121 x_122 x_123 x_124 x_125 x_126 x_127 x_128 x_129 x_130 x_131 x_132 x_133 x_134 x_135 x_136 x_137 x_138 x_139 x_140 x_141 x_142 x_143 x_144 x_145 x_146 x_147 x_148 x_149 x_150 x_151 x_152 x_153 x_154 x_155 x_156 x_157 x_158 x_159 x_160 x_161 x_162 x_163 x_164 x_165 x_166 x_167 x_168 x_169 x_170 x_171 x_172 x_173 x_174 x_175 x_176 x_177 x_178 x_179 x_180 x_181 x_182 x_183 x_184 x_185 x_186 x_187 x_188 x_189 x_190 x_191 x_192 x_193 x_194 x_195 x_196 x_197 x_198 x_199 x_200 x_201 x_202 x_203 x_204 x_205 x_206 x_207 x_208 x_209 x_210 x_211 x_212 x_213 x_214 x_215 x_216 x_217 x_218 x_219 x_220 x_221 x_222 x_223 x_224 x_225 x_226 x_227 x_228 x_229 x_230 x_231 x_232 x_233 x_234 x_235 x_236 x_237 x_238 x_239 x_240 x_241 x_242 x_243 x_244 x_245 x_246 x_247 x_248 x_249 x_250 x_251 x_252 x_253 x_254 x_255 x_256 x_257 x_258 x_259 x_260 x_261 x_262 x_263 x_264 x_265 x_266 x_267 x_268 x_269 x_270 x_271 x_272 x_273 x_274 x_275 x_276 x_277 x_278 x_279 x_280 x_281 x_282 x_283 x_284 x_285 x_286 x_287 x_288 x_289 x_290 x_291 x_292 x_293 x_294 x_295 x_296 x_297 x_298 x_299 x_300 x_301 x_302 x_303 x_304 x_305 x_306 x_307 x_308 x_309 : Value} {K : Act → World → Prop} {Q0 : Exit → Act → World → Prop}
    (hlt : i < 64) (ht : t.ok) (HB : Hid (BW w wr bk bh A L (sched blk))) (HV : Hid (∀ j, j < 8 → wr.cell? ⟨gw, j, none⟩ = some (.int .u64 (t.list.getD j 0 : Nat))))
    (hcapw : 8 ≤ capw)
    (HX : Hid (∀ (gw2 capw2 : Nat) (y_16 y_17 y_18 y_19 y_20 y_151 y_152 y_153 y_154 y_155 y_156 y_157 y_158 y_159 y_160 y_161 y_162 y_163 y_164 y_165 y_166 y_167 y_168 y_169 y_170 y_171 y_172 y_173 y_174 y_175 y_176 y_177 y_178 y_179 y_180 y_181 y_182 y_183 y_184 y_185 y_186 y_187 y_188 y_189 y_190 y_191 y_192 y_193 y_194 y_195 y_196 y_197 y_198 y_199 y_200 y_201 y_202 y_203 y_204 y_205 y_206 y_207 y_208 y_209 y_210 y_211 y_212 y_213 y_214 y_215 y_216 y_217 y_218 y_219 y_220 y_221 y_222 y_223 y_224 y_225 y_226 y_227 y_228 y_229 y_230 y_231 y_232 y_233 y_234 y_235 y_236 y_237 y_238 y_239 y_240 y_241 y_242 y_243 y_244 y_245 y_246 y_247 y_248 y_249 y_250 y_251 y_252 y_253 y_254 y_255 y_256 y_257 y_258 y_259 y_260 y_261 y_262 y_263 y_264 y_265 y_266 y_267 y_268 y_269 y_270 y_271 : Value) (w2 : World), 8 ≤ capw2 ∧ bh ≠ gw2 ∧ Hid (BW w w2 bk bh A L (sched blk)) ∧ Hid (∀ j, j < 8 → w2.cell? ⟨gw2, j, none⟩ = some (.int .u64 ((t.step (rootsL.getD i 0) ((sched blk).getD i 0)).list.getD j 0 : Nat))) →
      K ⟨List.toArray (x_0 :: x_1 :: x_2 :: .slice (some ⟨bk, 0, none⟩) 64 capk :: x_4 :: x_5 :: x_6 :: x_7 :: .slice (some ⟨A, 0, none⟩) 64 64 :: x_9 :: x_10 :: x_11 :: x_12 :: x_13 :: .slice (some ⟨gw2, 0, none⟩) 8 capw2 :: .int .i64 ((i : Int) + 1) :: y_16 :: y_17 :: y_18 :: y_19 :: y_20 :: x_21 :: x_22 :: x_23 :: x_24 :: x_25 :: x_26 :: x_27 :: x_28 :: x_29 :: x_30 :: x_31 :: x_32 :: x_33 :: x_34 :: x_35 :: x_36 :: x_37 :: x_38 :: x_39 :: x_40 :: x_41 :: x_42 :: x_43 :: x_44 :: x_45 :: x_46 :: x_47 :: x_48 :: x_49 :: x_50 :: x_51 :: x_52 :: x_53 :: x_54 :: x_55 :: x_56 :: x_57 :: x_58 :: x_59 :: x_60 :: x_61 :: x_62 :: x_63 :: x_64 :: x_65 :: x_66 :: x_67 :: x_68 :: x_69 :: x_70 :: x_71 :: x_72 :: x_73 :: x_74 :: x_75 :: x_76 :: x_77 :: x_78 :: x_79 :: x_80 :: x_81 :: x_82 :: x_83 :: x_84 :: x_85 :: x_86 :: x_87 :: x_88 :: x_89 :: x_90 :: x_91 :: x_92 :: x_93 :: x_94 :: x_95 :: x_96 :: x_97 :: x_98 :: x_99 :: x_100 :: x_101 :: x_102 :: x_103 :: x_104 :: x_105 :: x_106 :: x_107 :: x_108 :: x_109 :: x_110 :: x_111 :: x_112 :: x_113 :: x_114 :: x_115 :: x_116 :: x_117 :: x_118 :: x_119 :: x_120 :: x_121 :: x_122 :: x_123 :: x_124 :: x_125 :: x_126 :: x_127 :: x_128 :: x_129 :: x_130 :: x_131 :: x_132 :: x_133 :: x_134 :: x_135 :: x_136 :: x_137 :: x_138 :: x_139 :: x_140 :: x_141 :: x_142 :: x_143 :: x_144 :: x_145 :: x_146 :: x_147 :: x_148 :: x_149 :: x_150 :: y_151 :: y_152 :: y_153 :: y_154 :: y_155 :: y_156 :: y_157 :: y_158 :: y_159 :: y_160 :: y_161 :: y_162 :: y_163 :: y_164 :: y_165 :: y_166 :: y_167 :: y_168 :: y_169 :: y_170 :: y_171 :: y_172 :: y_173 :: y_174 :: y_175 :: y_176 :: y_177 :: y_178 :: y_179 :: y_180 :: y_181 :: y_182 :: y_183 :: y_184 :: y_185 :: y_186 :: y_187 :: y_188 :: y_189 :: y_190 :: y_191 :: y_192 :: y_193 :: y_194 :: y_195 :: y_196 :: y_197 :: y_198 :: y_199 :: y_200 :: y_201 :: y_202 :: y_203 :: y_204 :: y_205 :: y_206 :: y_207 :: y_208 :: y_209 :: y_210 :: y_211 :: y_212 :: y_213 :: y_214 :: y_215 :: y_216 :: y_217 :: y_218 :: y_219 :: y_220 :: y_221 :: y_222 :: y_223 :: y_224 :: y_225 :: y_226 :: y_227 :: y_228 :: y_229 :: y_230 :: y_231 :: y_232 :: y_233 :: y_234 :: y_235 :: y_236 :: y_237 :: y_238 :: y_239 :: y_240 :: y_241 :: y_242 :: y_243 :: y_244 :: y_245 :: y_246 :: y_247 :: y_248 :: y_249 :: y_250 :: y_251 :: y_252 :: y_253 :: y_254 :: y_255 :: y_256 :: y_257 :: y_258 :: y_259 :: y_260 :: y_261 :: y_262 :: y_263 :: y_264 :: y_265 :: y_266 :: y_267 :: y_268 :: y_269 :: y_270 :: y_271 :: x_272 :: x_273 :: x_274 :: x_275 :: x_276 :: x_277 :: x_278 :: x_279 :: x_280 :: x_281 :: x_282 :: x_283 :: x_284 :: x_285 :: x_286 :: x_287 :: x_288 :: x_289 :: x_290 :: x_291 :: x_292 :: x_293 :: x_294 :: x_295 :: x_296 :: x_297 :: x_298 :: x_299 :: x_300 :: x_301 :: x_302 :: x_303 :: x_304 :: x_305 :: x_306 :: x_307 :: x_308 :: x_309 :: []), []⟩ w2)) :
    Code.wp Tryd.prog (loopBody Tryd.f74 6) (Exit.then K Q0) ⟨List.toArray (x_0 :: x_1 :: x_2 :: .slice (some ⟨bk, 0, none⟩) 64 capk :: x_4 :: x_5 :: x_6 :: x_7 :: .slice (some ⟨A, 0, none⟩) 64 64 :: x_9 :: x_10 :: x_11 :: x_12 :: x_13 :: .slice (some ⟨gw, 0, none⟩) 8 capw :: .int .i64 i :: x_16 :: x_17 :: x_18 :: x_19 :: x_20 :: x_21 :: x_22 :: x_23 :: x_24 :: x_25 :: x_26 :: x_27 :: x_28 :: x_29 :: x_30 :: x_31 :: x_32 :: x_33 :: x_34 :: x_35 :: x_36 :: x_37 :: x_38 :: x_39 :: x_40 :: x_41 :: x_42 :: x_43 :: x_44 :: x_45 :: x_46 :: x_47 :: x_48 :: x_49 :: x_50 :: x_51 :: x_52 :: x_53 :: x_54 :: x_55 :: x_56 :: x_57 :: x_58 :: x_59 :: x_60 :: x_61 :: x_62 :: x_63 :: x_64 :: x_65 :: x_66 :: x_67 :: x_68 :: x_69 :: x_70 :: x_71 :: x_72 :: x_73 :: x_74 :: x_75 :: x_76 :: x_77 :: x_78 :: x_79 :: x_80 :: x_81 :: x_82 :: x_83 :: x_84 :: x_85 :: x_86 :: x_87 :: x_88 :: x_89 :: x_90 :: x_91 :: x_92 :: x_93 :: x_94 :: x_95 :: x_96 :: x_97 :: x_98 :: x_99 :: x_100 :: x_101 :: x_102 :: x_103 :: x_104 :: x_105 :: x_106 :: x_107 :: x_108 :: x_109 :: x_110 :: x_111 :: x_112 :: x_113 :: x_114 :: x_115 :: x_116 :: x_117 :: x_118 :: x_119 :: x_120 :: x_121 :: x_122 :: x_123 :: x_124 :: x_125 :: x_126 :: x_127 :: x_128 :: x_129 :: x_130 :: x_131 :: x_132 :: x_133 :: x_134 :: x_135 :: x_136 :: x_137 :: x_138 :: x_139 :: x_140 :: x_141 :: x_142 :: x_143 :: x_144 :: x_145 :: x_146 :: x_147 :: x_148 :: x_149 :: x_150 :: x_151 :: x_152 :: x_153 :: x_154 :: x_155 :: x_156 :: x_157 :: x_158 :: x_159 :: x_160 :: x_161 :: x_162 :: x_163 :: x_164 :: x_165 :: x_166 :: x_167 :: x_168 :: x_169 :: x_170 :: x_171 :: x_172 :: x_173 :: x_174 :: x_175 :: x_176 :: x_177 :: x_178 :: x_179 :: x_180 :: x_181 :: x_182 :: x_183 :: x_184 :: x_185 :: x_186 :: x_187 :: x_188 :: x_189 :: x_190 :: x_191 :: x_192 :: x_193 :: x_194 :: x_195 :: x_196 :: x_197 :: x_198 :: x_199 :: x_200 :: x_201 :: x_202 :: x_203 :: x_204 :: x_205 :: x_206 :: x_207 :: x_208 :: x_209 :: x_210 :: x_211 :: x_212 :: x_213 :: x_214 :: x_215 :: x_216 :: x_217 :: x_218 :: x_219 :: x_220 :: x_221 :: x_222 :: x_223 :: x_224 :: x_225 :: x_226 :: x_227 :: x_228 :: x_229 :: x_230 :: x_231 :: x_232 :: x_233 :: x_234 :: x_235 :: x_236 :: x_237 :: x_238 :: x_239 :: x_240 :: x_241 :: x_242 :: x_243 :: x_244 :: x_245 :: x_246 :: x_247 :: x_248 :: x_249 :: x_250 :: x_251 :: x_252 :: x_253 :: x_254 :: x_255 :: x_256 :: x_257 :: x_258 :: x_259 :: x_260 :: x_261 :: x_262 :: x_263 :: x_264 :: x_265 :: x_266 :: x_267 :: x_268 :: x_269 :: x_270 :: x_271 :: x_272 :: x_273 :: x_274 :: x_275 :: x_276 :: x_277 :: x_278 :: x_279 :: x_280 :: x_281 :: x_282 :: x_283 :: x_284 :: x_285 :: x_286 :: x_287 :: x_288 :: x_289 :: x_290 :: x_291 :: x_292 :: x_293 :: x_294 :: x_295 :: x_296 :: x_297 :: x_298 :: x_299 :: x_300 :: x_301 :: x_302 :: x_303 :: x_304 :: x_305 :: x_306 :: x_307 :: x_308 :: x_309 :: []), []⟩ wr := by
  conv => arg 2; whnf
  obtain ⟨ta, tb, tc, td, te, tf, tg, th⟩ := t
  obtain ⟨la, lb, lc, ld, le, lf, lg, lh⟩ := ht
  simp only at la lb lc ld le lf lg lh
  have c0 : wr.cell? ⟨gw, 0, none⟩ = some (.int .u64 ta) := HV.out 0 (by decide)
  have c1 : wr.cell? ⟨gw, 1, none⟩ = some (.int .u64 tb) := HV.out 1 (by decide)
  have c2 : wr.cell? ⟨gw, 2, none⟩ = some (.int .u64 tc) := HV.out 2 (by decide)
  have c3 : wr.cell? ⟨gw, 3, none⟩ = some (.int .u64 td) := HV.out 3 (by decide)
  have c4 : wr.cell? ⟨gw, 4, none⟩ = some (.int .u64 te) := HV.out 4 (by decide)
  have c5 : wr.cell? ⟨gw, 5, none⟩ = some (.int .u64 tf) := HV.out 5 (by decide)
  have c6 : wr.cell? ⟨gw, 6, none⟩ = some (.int .u64 tg) := HV.out 6 (by decide)
  have c7 : wr.cell? ⟨gw, 7, none⟩ = some (.int .u64 th) := HV.out 7 (by decide)
  have cK := HB.out.r.k i hlt
  have cW := HB.out.x.cell i (by rw [sched_length]; exact hlt)
  have lK : rootsL.getD i 0 < 4294967296 := getD_lt (by decide) (by decide) i
  have lW := getD_lt (sched_lt blk) (by decide) i
  obtain ⟨K', hK'⟩ : ∃ x, rootsL.getD i 0 = x := ⟨_, rfl⟩
  obtain ⟨W', hW'⟩ : ∃ x, (sched blk).getD i 0 = x := ⟨_, rfl⟩
  rw [hK'] at cK lK
  rw [hW'] at cW lW
  have HKW := Lib.hid (And.intro hK' hW')
  clear hK' hW' HV
  obtain ⟨z1, hz1', lz1⟩ : ∃ z, Sig1 te = z ∧ z < 4294967296 := ⟨_, rfl, Sig1_lt le⟩
  obtain ⟨z0, hz0', lz0⟩ : ∃ z, Sig0 ta = z ∧ z < 4294967296 := ⟨_, rfl, Sig0_lt la⟩
  obtain ⟨zc, hzc, lzc⟩ : ∃ z, chs te tf tg = z ∧ z < 4294967296 := ⟨_, rfl, chs_lt le⟩
  obtain ⟨zm, hzm, lzm⟩ : ∃ z, maj ta tb tc = z ∧ z < 4294967296 := ⟨_, rfl, maj_lt la lb⟩
  obtain ⟨ne, hne⟩ : ∃ z, 4294967295 - te = z := ⟨_, rfl⟩
  have r1 : (4294967295 : Int) - (te : Int) = (ne : Int) := by omega
  have s1 := xor3_64 (rotr_lt (n := 6) (by decide) le) (rotr_lt (n := 11) (by decide) le) (rotr_lt (n := 25) (by decide) le)
  rw [show rotr 6 te ^^^ rotr 11 te ^^^ rotr 25 te = z1 from hz1'] at s1
  have s0 := xor3_64 (rotr_lt (n := 2) (by decide) la) (rotr_lt (n := 13) (by decide) la) (rotr_lt (n := 22) (by decide) la)
  rw [show rotr 2 ta ^^^ rotr 13 ta ^^^ rotr 22 ta = z0 from hz0'] at s0
  have sc : bits .xor .u64 (bits .and .u64 (te : Int) tf) (bits .and .u64 (ne : Int) tg) = (zc : Int) := by
    rw [← hzc, ← hne, u64_and_nat _ _ (by omega) (by omega), u64_and_nat _ _ (by omega) (by omega), u64_xor_nat _ _ (lt64 (and_lt le)) (lt64 (and_lt (by omega)))]
    rfl
  have sm : bits .xor .u64 (bits .xor .u64 (bits .and .u64 (ta : Int) tb) (bits .and .u64 (ta : Int) tc)) (bits .and .u64 (tb : Int) tc) = (zm : Int) := by
    rw [← hzm, u64_and_nat _ _ (by omega) (by omega), u64_and_nat _ _ (by omega) (by omega), u64_and_nat _ _ (by omega) (by omega), xor3_64 (and_lt la) (and_lt la) (and_lt lb)]
    rfl
  obtain ⟨x, hx, lx⟩ : ∃ x, (th + z1 + zc + K' + W') % 4294967296 = x ∧ x < 4294967296 := ⟨_, rfl, Nat.mod_lt _ (by decide)⟩
  obtain ⟨y, hy, ly⟩ : ∃ y, (z0 + zm) % 4294967296 = y ∧ y < 4294967296 := ⟨_, rfl, Nat.mod_lt _ (by decide)⟩
  have hst' : (⟨ta, tb, tc, td, te, tf, tg, th⟩ : St).step K' W' = ⟨(x + y) % 4294967296, ta, tb, tc, (td + x) % 4294967296, te, tf, tg⟩ := by
    simp only [St.step, t1, t2, hz1', hz0', hzc, hzm, hx, hy]
  have HST' := Lib.hid hst'
  clear hst' hz1' hz0' hzc hzm hne
  have hxi : ((th : Int) + z1 + zc + K' + W') % 4294967296 = (x : Int) := by rw [← hx]; simp
  have hyi : ((z0 : Int) + zm) % 4294967296 = (y : Int) := by rw [← hy]; simp
  clear hx hy
  have v1 : IntKind.u64.wrap ((th : Int) + z1) = (th : Int) + z1 := by rw [show (th : Int) + z1 = ((th + z1 : Nat) : Int) from by simp]; exact wrap_u64 _ (by omega)
  have v2 : IntKind.u64.wrap ((th : Int) + z1 + zc) = (th : Int) + z1 + zc := by rw [show (th : Int) + z1 + zc = ((th + z1 + zc : Nat) : Int) from by simp]; exact wrap_u64 _ (by omega)
  have v3 : IntKind.u64.wrap ((th : Int) + z1 + zc + K') = (th : Int) + z1 + zc + K' := by rw [show (th : Int) + z1 + zc + K' = ((th + z1 + zc + K' : Nat) : Int) from by simp]; exact wrap_u64 _ (by omega)
  have v4 : IntKind.u64.wrap ((th : Int) + z1 + zc + K' + W') = (th : Int) + z1 + zc + K' + W' := by rw [show (th : Int) + z1 + zc + K' + W' = ((th + z1 + zc + K' + W' : Nat) : Int) from by simp]; exact wrap_u64 _ (by omega)
  have v5 : IntKind.u64.wrap ((z0 : Int) + zm) = (z0 : Int) + zm := by rw [show (z0 : Int) + zm = ((z0 + zm : Nat) : Int) from by simp]; exact wrap_u64 _ (by omega)
  have v6 : IntKind.u64.wrap ((x : Int) + y) = (x : Int) + y := by rw [show (x : Int) + y = ((x + y : Nat) : Int) from by simp]; exact wrap_u64 _ (by omega)
  have v7 : IntKind.u64.wrap ((td : Int) + x) = (td : Int) + x := by rw [show (td : Int) + x = ((td + x : Nat) : Int) from by simp]; exact wrap_u64 _ (by omega)
  have v8 : IntKind.u64.wrap (ne : Int) = (ne : Int) := wrap_u64 _ (by omega)
  have b1 : (0 : Int) ≤ (i : Int) := by omega
  have b2 : (i : Int) < 64 := by omega
  go_wp2_with fail
  go_quiet ((go_at_call 86; exact Calls.quiet_of (turn_c _ _ (by assumption) (by decide) _)))
  revert nq; intro n1
  go_wp2_with fail
  go_quiet (fail)
  obtain ⟨n2, hn2⟩ : ∃ n2, (wr.drewN n1).drewN nq = wr.drewN n2 := ⟨_, World.drewN_drewN ..⟩
  rw [hn2]
  clear hn2
  go_wp2_with fail
  go_quiet (fail)
  obtain ⟨n3, hn3⟩ : ∃ n2', (wr.drewN n2).drewN nq = wr.drewN n2' := ⟨_, World.drewN_drewN ..⟩
  rw [hn3]
  clear hn3
  go_wp2_with fail
  go_quiet ((go_at_call 86; exact quiet_add (turn_c _ _ (by assumption) (by decide) _)))
  obtain ⟨n4, hn4⟩ : ∃ n2', (wr.drewN n3).drewN nq = wr.drewN n2' := ⟨_, World.drewN_drewN ..⟩
  rw [hn4]
  clear hn4
  go_wp2_with fail
  go_quiet (fail)
  obtain ⟨n5, hn5⟩ : ∃ n2', (wr.drewN n4).drewN nq = wr.drewN n2' := ⟨_, World.drewN_drewN ..⟩
  rw [hn5]
  clear hn5
  go_wp2_with fail
  have C0 : (wr.drewN n5).cell? ⟨gw, 0, none⟩ = some (.int .u64 ta) := c0
  have C1 : (wr.drewN n5).cell? ⟨gw, 1, none⟩ = some (.int .u64 tb) := c1
  have C2 : (wr.drewN n5).cell? ⟨gw, 2, none⟩ = some (.int .u64 tc) := c2
  have C3 : (wr.drewN n5).cell? ⟨gw, 3, none⟩ = some (.int .u64 td) := c3
  have C4 : (wr.drewN n5).cell? ⟨gw, 4, none⟩ = some (.int .u64 te) := c4
  have C5 : (wr.drewN n5).cell? ⟨gw, 5, none⟩ = some (.int .u64 tf) := c5
  have C6 : (wr.drewN n5).cell? ⟨gw, 6, none⟩ = some (.int .u64 tg) := c6
  have C7 : (wr.drewN n5).cell? ⟨gw, 7, none⟩ = some (.int .u64 th) := c7
  have HB5 := Lib.hid (HB.out.drewN n5)
  clear c0 c1 c2 c3 c4 c5 c6 c7 HB cK cW s1 s0 sc sm
  generalize wr.drewN n5 = wq at C0 C1 C2 C3 C4 C5 C6 C7 HB5 ⊢
  go_still_tail 28, (by kernel_rfl)
  go_wp2_with fail
  refine HX.out _ _ _ _ _ _ _ _ _ _ _ _ _ _ _ _ _ _ _ _ _ _ _ _ _ _ _ _ _ _ _ _ _ _ _ _ _ _ _ _ _ _ _ _ _ _ _ _ _ _ _ _ _ _ _ _ _ _ _ _ _ _ _ _ _ _ _ _ _ _ _ _ _ _ _ _ _ _ _ _ _ _ _ _ _ _ _ _ _ _ _ _ _ _ _ _ _ _ _ _ _ _ _ _ _ _ _ _ _ _ _ _ _ _ _ _ _ _ _ _ _ _ _ _ _ _ _ _ _ ?_
  have HB6 := HB5.out.drew
  have hq : bh < wq.drew.heap.size := World.block_lt_of_cell? wq.drew _ (HB6.r.h 0 (by decide))
  refine ⟨by omega, ?_, ?_, ?_⟩
  · intro e
    rw [e] at hq
    exact Nat.lt_irrefl _ hq
  · exact HB6.kept (World.grownBy_alloc _ _ _)
  · show ∀ j, _
    rw [HKW.out.1, HKW.out.2, HST'.out]
    intro j hj
    refine (cell_of (w := World.alloc wq _) (heap_alloc_at _ _ _ rfl) j).trans ?_
    obtain rfl | rfl | rfl | rfl | rfl | rfl | rfl | rfl : j = 0 ∨ j = 1 ∨ j = 2 ∨ j = 3 ∨ j = 4 ∨ j = 5 ∨ j = 6 ∨ j = 7 := by omega
    all_goals simp [St.list]
end Go.Proofs.YtemndmhdlgfajaaDoor
