/- A round of the document's 64, its own theorem: one walk of all was too great for a machine. · A round of the document's schedule, its own theorem. · A round of the document's reading of a word, its own theorem. · A round of the document's adding to the state, its own theorem. · The walk of the document's Four, and small things that the sha laws share. · Out of the listed variables: package sha's two tables in memory; and a world for the witness. · Arguments opened: arrays of bytes, slices of integers. No walk. · A row's post, where the call has only made memory. No walk. -/
import Derived.Test.YtioahjdojgcfdaaDoorShaRefF
import Derived.Test.YtioahjdojgcfdaaDoorShaCalls
import Derived.Test.YtioahjdojgcfdaaDoorRosterLaysB2
import Derived.Test.YtioahjdojgcfdaaDoorCards
import Derived.Test.YtioahjdojgcfdaaDoorTie
import Derived.Lib.LaidIn
import Derived.Lib.LaidU8T
import Derived.Deep.DeepHandedRow
import Derived.Deep.DeepWitnessRowRef
import Derived.ProofKit
import Derived.OpenShut
import Derived.ShutString
import Derived.Test.YtioahjdojgcfdaaDoorRosterLaysB4
import Derived.WideKeyArr2
import Derived.ChangeSlices
import Derived.Test.YtioahjdojgcfdaaDoorRows
import Derived.WalkKit
namespace Go.Proofs.YtioahjdojgcfdaaDoor
open Go.RowKit

set_option maxRecDepth 100000 in
set_option maxHeartbeats 8000000 in
theorem round7 {w wr : World} {bk bh A gw capk capw i : Nat} {blk : List UInt8} {L : List Nat} {t : St} {x_0 x_1 x_2 x_4 x_5 x_6 x_7 x_9 x_10 x_11 x_12 x_13 x_16 x_17 x_18 x_19 x_20 x_21 x_22 x_23 x_24 x_25 x_26 x_27 x_28 x_29 x_30 x_31 x_32 x_33 x_34 x_35 x_36 x_37 x_38 x_39 x_40 x_41 x_42 x_43 x_44 x_45 x_46 x_47 x_48 x_49 x_50 x_51 x_52 x_53 x_54 x_55 x_56 x_57 x_58 x_59 x_60 x_61 x_62 x_63 x_64 x_65 x_66 x_67 x_68 x_69 x_70 x_71 x_72 x_73 x_74 x_75 x_76 x_77 x_78 x_79 x_80 x_81 x_82 x_83 x_84 x_85 x_86 x_87 x_88 x_89 x_90 x_91 x_92 x_93 x_94 x_95 x_96 x_97 x_98 x_99 x_100 x_101 x_102 x_103 x_104 x_105 x_106 x_107 x_108 x_109 x_110 x_111 x_112 x_113 x_114 x_115 x_116 x_117 x_118 x_119 x_120 x_121 x_122 x_123 x_124 x_125 x_126 x_127 x_128 x_129 x_130 x_131 x_132 x_133 x_134 x_135 x_136 x_137 x_138 x_139 x_140 x_141 x_142 x_143 x_144 x_145 x_146 x_147 x_148 x_149 x_150 x_151 x_152 x_153 x_154 x_155 x_156 x_157 x_158 x_159 x_160 x_161 x_162 x_163 x_164 x_165 x_166 x_167 x_168 x_169 x_170 x_171 x_172 x_173 x_174 x_175 x_176 x_177 x_178 x_179 x_180 x_181 x_182 x_183 x_184 x_185 x_186 x_187 x_188 x_189 x_190 x_191 x_192 x_193 x_194 x_195 x_196 x_197 x_198 x_199 x_200 x_201 x_202 x_203 x_204 x_205 x_206 x_207 x_208 x_209 x_210 x_211 x_212 x_213 x_214 x_215 x_216 x_217 x_218 x_219 x_220 x_221 x_222 x_223 x_224 x_225 x_226 x_227 x_228 x_229 x_230 x_231 x_232 x_233 x_234 x_235 x_236 x_237 x_238 x_239 x_240 x_241 x_242 x_243 x_244 x_245 x_246 x_247 x_248 x_249 x_250 x_251 x_252 x_253 x_254 x_255 x_256 x_257 x_258 x_259 x_260 x_261 x_262 x_263 x_264 x_265 x_266 x_267 x_268 x_269 x_270 x_271 x_272 x_273 x_274 x_275 x_276 x_277 x_278 x_279 x_280 x_281 x_282 x_283 x_284 x_285 x_286 x_287 x_288 x_289 x_290 x_291 x_292 x_293 x_294 x_295 x_296 x_297 x_298 x_299 x_300 x_301 x_302 x_303 x_304 x_305 x_306 x_307 x_308 x_309 : Value} {K : Act → World → Prop} {Q0 : Exit → Act → World → Prop}
    (hlt : i < 64) (ht : t.ok) (HB : Hid (BW w wr bk bh A L (sched blk))) (HV : Hid (∀ j, j < 8 → wr.cell? ⟨gw, j, none⟩ = some (.int .u64 (t.list.getD j 0 : Nat))))
    (hcapw : 8 ≤ capw)
    (HX : Hid (∀ (gw2 capw2 : Nat) (y_16 y_17 y_18 y_19 y_20 y_151 y_152 y_153 y_154 y_155 y_156 y_157 y_158 y_159 y_160 y_161 y_162 y_163 y_164 y_165 y_166 y_167 y_168 y_169 y_170 y_171 y_172 y_173 y_174 y_175 y_176 y_177 y_178 y_179 y_180 y_181 y_182 y_183 y_184 y_185 y_186 y_187 y_188 y_189 y_190 y_191 y_192 y_193 y_194 y_195 y_196 y_197 y_198 y_199 y_200 y_201 y_202 y_203 y_204 y_205 y_206 y_207 y_208 y_209 y_210 y_211 y_212 y_213 y_214 y_215 y_216 y_217 y_218 y_219 y_220 y_221 y_222 y_223 y_224 y_225 y_226 y_227 y_228 y_229 y_230 y_231 y_232 y_233 y_234 y_235 y_236 y_237 y_238 y_239 y_240 y_241 y_242 y_243 y_244 y_245 y_246 y_247 y_248 y_249 y_250 y_251 y_252 y_253 y_254 y_255 y_256 y_257 y_258 y_259 y_260 y_261 y_262 y_263 y_264 y_265 y_266 y_267 y_268 y_269 y_270 y_271 : Value) (w2 : World), 8 ≤ capw2 ∧ bh ≠ gw2 ∧ Hid (BW w w2 bk bh A L (sched blk)) ∧ Hid (∀ j, j < 8 → w2.cell? ⟨gw2, j, none⟩ = some (.int .u64 ((t.step (rootsL.getD i 0) ((sched blk).getD i 0)).list.getD j 0 : Nat))) →
      K ⟨List.toArray (x_0 :: x_1 :: x_2 :: .slice (some ⟨bk, 0, none⟩) 64 capk :: x_4 :: x_5 :: x_6 :: x_7 :: .slice (some ⟨A, 0, none⟩) 64 64 :: x_9 :: x_10 :: x_11 :: x_12 :: x_13 :: .slice (some ⟨gw2, 0, none⟩) 8 capw2 :: .int .i64 ((i : Int) + 1) :: y_16 :: y_17 :: y_18 :: y_19 :: y_20 :: x_21 :: x_22 :: x_23 :: x_24 :: x_25 :: x_26 :: x_27 :: x_28 :: x_29 :: x_30 :: x_31 :: x_32 :: x_33 :: x_34 :: x_35 :: x_36 :: x_37 :: x_38 :: x_39 :: x_40 :: x_41 :: x_42 :: x_43 :: x_44 :: x_45 :: x_46 :: x_47 :: x_48 :: x_49 :: x_50 :: x_51 :: x_52 :: x_53 :: x_54 :: x_55 :: x_56 :: x_57 :: x_58 :: x_59 :: x_60 :: x_61 :: x_62 :: x_63 :: x_64 :: x_65 :: x_66 :: x_67 :: x_68 :: x_69 :: x_70 :: x_71 :: x_72 :: x_73 :: x_74 :: x_75 :: x_76 :: x_77 :: x_78 :: x_79 :: x_80 :: x_81 :: x_82 :: x_83 :: x_84 :: x_85 :: x_86 :: x_87 :: x_88 :: x_89 :: x_90 :: x_91 :: x_92 :: x_93 :: x_94 :: x_95 :: x_96 :: x_97 :: x_98 :: x_99 :: x_100 :: x_101 :: x_102 :: x_103 :: x_104 :: x_105 :: x_106 :: x_107 :: x_108 :: x_109 :: x_110 :: x_111 :: x_112 :: x_113 :: x_114 :: x_115 :: x_116 :: x_117 :: x_118 :: x_119 :: x_120 :: x_121 :: x_122 :: x_123 :: x_124 :: x_125 :: x_126 :: x_127 :: x_128 :: x_129 :: x_130 :: x_131 :: x_132 :: x_133 :: x_134 :: x_135 :: x_136 :: x_137 :: x_138 :: x_139 :: x_140 :: x_141 :: x_142 :: x_143 :: x_144 :: x_145 :: x_146 :: x_147 :: x_148 :: x_149 :: x_150 :: y_151 :: y_152 :: y_153 :: y_154 :: y_155 :: y_156 :: y_157 :: y_158 :: y_159 :: y_160 :: y_161 :: y_162 :: y_163 :: y_164 :: y_165 :: y_166 :: y_167 :: y_168 :: y_169 :: y_170 :: y_171 :: y_172 :: y_173 :: y_174 :: y_175 :: y_176 :: y_177 :: y_178 :: y_179 :: y_180 :: y_181 :: y_182 :: y_183 :: y_184 :: y_185 :: y_186 :: y_187 :: y_188 :: y_189 :: y_190 :: y_191 :: y_192 :: y_193 :: y_194 :: y_195 :: y_196 :: y_197 :: y_198 :: y_199 :: y_200 :: y_201 :: y_202 :: y_203 :: y_204 :: y_205 :: y_206 :: y_207 :: y_208 :: y_209 :: y_210 :: y_211 :: y_212 :: y_213 :: y_214 :: y_215 :: y_216 :: y_217 :: y_218 :: y_219 :: y_220 :: y_221 :: y_222 :: y_223 :: y_224 :: y_225 :: y_226 :: y_227 :: y_228 :: y_229 :: y_230 :: y_231 :: y_232 :: y_233 :: y_234 :: y_235 :: y_236 :: y_237 :: y_238 :: y_239 :: y_240 :: y_241 :: y_242 :: y_243 :: y_244 :: y_245 :: y_246 :: y_247 :: y_248 :: y_249 :: y_250 :: y_251 :: y_252 :: y_253 :: y_254 :: y_255 :: y_256 :: y_257 :: y_258 :: y_259 :: y_260 :: y_261 :: y_262 :: y_263 :: y_264 :: y_265 :: y_266 :: y_267 :: y_268 :: y_269 :: y_270 :: y_271 :: x_272 :: x_273 :: x_274 :: x_275 :: x_276 :: x_277 :: x_278 :: x_279 :: x_280 :: x_281 :: x_282 :: x_283 :: x_284 :: x_285 :: x_286 :: x_287 :: x_288 :: x_289 :: x_290 :: x_291 :: x_292 :: x_293 :: x_294 :: x_295 :: x_296 :: x_297 :: x_298 :: x_299 :: x_300 :: x_301 :: x_302 :: x_303 :: x_304 :: x_305 :: x_306 :: x_307 :: x_308 :: x_309 :: []), []⟩ w2)) :
    Code.wp Tryd.prog (loopBody Tryd.f50 6) (Exit.then K Q0) ⟨List.toArray (x_0 :: x_1 :: x_2 :: .slice (some ⟨bk, 0, none⟩) 64 capk :: x_4 :: x_5 :: x_6 :: x_7 :: .slice (some ⟨A, 0, none⟩) 64 64 :: x_9 :: x_10 :: x_11 :: x_12 :: x_13 :: .slice (some ⟨gw, 0, none⟩) 8 capw :: .int .i64 i :: x_16 :: x_17 :: x_18 :: x_19 :: x_20 :: x_21 :: x_22 :: x_23 :: x_24 :: x_25 :: x_26 :: x_27 :: x_28 :: x_29 :: x_30 :: x_31 :: x_32 :: x_33 :: x_34 :: x_35 :: x_36 :: x_37 :: x_38 :: x_39 :: x_40 :: x_41 :: x_42 :: x_43 :: x_44 :: x_45 :: x_46 :: x_47 :: x_48 :: x_49 :: x_50 :: x_51 :: x_52 :: x_53 :: x_54 :: x_55 :: x_56 :: x_57 :: x_58 :: x_59 :: x_60 :: x_61 :: x_62 :: x_63 :: x_64 :: x_65 :: x_66 :: x_67 :: x_68 :: x_69 :: x_70 :: x_71 :: x_72 :: x_73 :: x_74 :: x_75 :: x_76 :: x_77 :: x_78 :: x_79 :: x_80 :: x_81 :: x_82 :: x_83 :: x_84 :: x_85 :: x_86 :: x_87 :: x_88 :: x_89 :: x_90 :: x_91 :: x_92 :: x_93 :: x_94 :: x_95 :: x_96 :: x_97 :: x_98 :: x_99 :: x_100 :: x_101 :: x_102 :: x_103 :: x_104 :: x_105 :: x_106 :: x_107 :: x_108 :: x_109 :: x_110 :: x_111 :: x_112 :: x_113 :: x_114 :: x_115 :: x_116 :: x_117 :: x_118 :: x_119 :: x_120 :: x_121 :: x_122 :: x_123 :: x_124 :: x_125 :: x_126 :: x_127 :: x_128 :: x_129 :: x_130 :: x_131 :: x_132 :: x_133 :: x_134 :: x_135 :: x_136 :: x_137 :: x_138 :: x_139 :: x_140 :: x_141 :: x_142 :: x_143 :: x_144 :: x_145 :: x_146 :: x_147 :: x_148 :: x_149 :: x_150 :: x_151 :: x_152 :: x_153 :: x_154 :: x_155 :: x_156 :: x_157 :: x_158 :: x_159 :: x_160 :: x_161 :: x_162 :: x_163 :: x_164 :: x_165 :: x_166 :: x_167 :: x_168 :: x_169 :: x_170 :: x_171 :: x_172 :: x_173 :: x_174 :: x_175 :: x_176 :: x_177 :: x_178 :: x_179 :: x_180 :: x_181 :: x_182 :: x_183 :: x_184 :: x_185 :: x_186 :: x_187 :: x_188 :: x_189 :: x_190 :: x_191 :: x_192 :: x_193 :: x_194 :: x_195 :: x_196 :: x_197 :: x_198 :: x_199 :: x_200 :: x_201 :: x_202 :: x_203 :: x_204 :: x_205 :: x_206 :: x_207 :: x_208 :: x_209 :: x_210 :: x_211 :: x_212 :: x_213 :: x_214 :: x_215 :: x_216 :: x_217 :: x_218 :: x_219 :: x_220 :: x_221 :: x_222 :: x_223 :: x_224 :: x_225 :: x_226 :: x_227 :: x_228 :: x_229 :: x_230 :: x_231 :: x_232 :: x_233 :: x_234 :: x_235 :: x_236 :: x_237 :: x_238 :: x_239 :: x_240 :: x_241 :: x_242 :: x_243 :: x_244 :: x_245 :: x_246 :: x_247 :: x_248 :: x_249 :: x_250 :: x_251 :: x_252 :: x_253 :: x_254 :: x_255 :: x_256 :: x_257 :: x_258 :: x_259 :: x_260 :: x_261 :: x_262 :: x_263 :: x_264 :: x_265 :: x_266 :: x_267 :: x_268 :: x_269 :: x_270 :: x_271 :: x_272 :: x_273 :: x_274 :: x_275 :: x_276 :: x_277 :: x_278 :: x_279 :: x_280 :: x_281 :: x_282 :: x_283 :: x_284 :: x_285 :: x_286 :: x_287 :: x_288 :: x_289 :: x_290 :: x_291 :: x_292 :: x_293 :: x_294 :: x_295 :: x_296 :: x_297 :: x_298 :: x_299 :: x_300 :: x_301 :: x_302 :: x_303 :: x_304 :: x_305 :: x_306 :: x_307 :: x_308 :: x_309 :: []), []⟩ wr := by
  conv => arg 2; whnf
  obtain ⟨ta, tb, tc, td, te, tf, tg, th⟩ := t
  obtain ⟨la, lb, lc, ld, le, lf, lg, lh⟩ := ht
  simp only at la lb lc ld le lf lg lh
  have c0 : wr.cell? ⟨gw, 0, none⟩ = some (.int .u64 ta) := HV.out 0 (by decide)
  have c1 : wr.cell? ⟨gw, 1, none⟩ = some (.int .u64 tb) := HV.out 1 (by decide)
  have c2 : wr.cell? ⟨gw, 2, none⟩ = some (.int .u64 tc) := HV.out 2 (by decide)
  have c3 : wr.cell? ⟨gw, 3, none⟩ = some (.int .u64 td) := HV.out 3 (by decide)
  have c4 : wr.cell? ⟨gw, 4, none⟩ = some (.int .u64 te) := HV.out 4 (by decide)
  have c5 : wr.cell? ⟨gw, 5, none⟩ = some (.int .u64 tf) := HV.out 5 (by decide)
  have c6 : wr.cell? ⟨gw, 6, none⟩ = some (.int .u64 tg) := HV.out 6 (by decide)
  have c7 : wr.cell? ⟨gw, 7, none⟩ = some (.int .u64 th) := HV.out 7 (by decide)
  have cK := HB.out.r.k i hlt
  have cW := HB.out.x.cell i (by rw [sched_length]; exact hlt)
  have lK : rootsL.getD i 0 < 4294967296 := getD_lt (by decide) (by decide) i
  have lW := getD_lt (sched_lt blk) (by decide) i
  obtain ⟨K', hK'⟩ : ∃ x, rootsL.getD i 0 = x := ⟨_, rfl⟩
  obtain ⟨W', hW'⟩ : ∃ x, (sched blk).getD i 0 = x := ⟨_, rfl⟩
  rw [hK'] at cK lK
  rw [hW'] at cW lW
  have HKW := Lib.hid (And.intro hK' hW')
  clear hK' hW' HV
  obtain ⟨z1, hz1', lz1⟩ : ∃ z, Sig1 te = z ∧ z < 4294967296 := ⟨_, rfl, Sig1_lt le⟩
  obtain ⟨z0, hz0', lz0⟩ : ∃ z, Sig0 ta = z ∧ z < 4294967296 := ⟨_, rfl, Sig0_lt la⟩
  obtain ⟨zc, hzc, lzc⟩ : ∃ z, chs te tf tg = z ∧ z < 4294967296 := ⟨_, rfl, chs_lt le⟩
  obtain ⟨zm, hzm, lzm⟩ : ∃ z, maj ta tb tc = z ∧ z < 4294967296 := ⟨_, rfl, maj_lt la lb⟩
  obtain ⟨ne, hne⟩ : ∃ z, 4294967295 - te = z := ⟨_, rfl⟩
  have r1 : (4294967295 : Int) - (te : Int) = (ne : Int) := by omega
  have s1 := xor3_64 (rotr_lt (n := 6) (by decide) le) (rotr_lt (n := 11) (by decide) le) (rotr_lt (n := 25) (by decide) le)
  rw [show rotr 6 te ^^^ rotr 11 te ^^^ rotr 25 te = z1 from hz1'] at s1
  have s0 := xor3_64 (rotr_lt (n := 2) (by decide) la) (rotr_lt (n := 13) (by decide) la) (rotr_lt (n := 22) (by decide) la)
  rw [show rotr 2 ta ^^^ rotr 13 ta ^^^ rotr 22 ta = z0 from hz0'] at s0
  have sc : bits .xor .u64 (bits .and .u64 (te : Int) tf) (bits .and .u64 (ne : Int) tg) = (zc : Int) := by
    rw [← hzc, ← hne, u64_and_nat _ _ (by omega) (by omega), u64_and_nat _ _ (by omega) (by omega), u64_xor_nat _ _ (lt64 (and_lt le)) (lt64 (and_lt (by omega)))]
    rfl
  have sm : bits .xor .u64 (bits .xor .u64 (bits .and .u64 (ta : Int) tb) (bits .and .u64 (ta : Int) tc)) (bits .and .u64 (tb : Int) tc) = (zm : Int) := by
    rw [← hzm, u64_and_nat _ _ (by omega) (by omega), u64_and_nat _ _ (by omega) (by omega), u64_and_nat _ _ (by omega) (by omega), xor3_64 (and_lt la) (and_lt la) (and_lt lb)]
    rfl
  obtain ⟨x, hx, lx⟩ : ∃ x, (th + z1 + zc + K' + W') % 4294967296 = x ∧ x < 4294967296 := ⟨_, rfl, Nat.mod_lt _ (by decide)⟩
  obtain ⟨y, hy, ly⟩ : ∃ y, (z0 + zm) % 4294967296 = y ∧ y < 4294967296 := ⟨_, rfl, Nat.mod_lt _ (by decide)⟩
  have hst' : (⟨ta, tb, tc, td, te, tf, tg, th⟩ : St).step K' W' = ⟨(x + y) % 4294967296, ta, tb, tc, (td + x) % 4294967296, te, tf, tg⟩ := by
    simp only [St.step, t1, t2, hz1', hz0', hzc, hzm, hx, hy]
  have HST' := Lib.hid hst'
  clear hst' hz1' hz0' hzc hzm hne
  have hxi : ((th : Int) + z1 + zc + K' + W') % 4294967296 = (x : Int) := by rw [← hx]; simp
  have hyi : ((z0 : Int) + zm) % 4294967296 = (y : Int) := by rw [← hy]; simp
  clear hx hy
  have v1 : IntKind.u64.wrap ((th : Int) + z1) = (th : Int) + z1 := by rw [show (th : Int) + z1 = ((th + z1 : Nat) : Int) from by simp]; exact wrap_u64 _ (by omega)
  have v2 : IntKind.u64.wrap ((th : Int) + z1 + zc) = (th : Int) + z1 + zc := by rw [show (th : Int) + z1 + zc = ((th + z1 + zc : Nat) : Int) from by simp]; exact wrap_u64 _ (by omega)
  have v3 : IntKind.u64.wrap ((th : Int) + z1 + zc + K') = (th : Int) + z1 + zc + K' := by rw [show (th : Int) + z1 + zc + K' = ((th + z1 + zc + K' : Nat) : Int) from by simp]; exact wrap_u64 _ (by omega)
  have v4 : IntKind.u64.wrap ((th : Int) + z1 + zc + K' + W') = (th : Int) + z1 + zc + K' + W' := by rw [show (th : Int) + z1 + zc + K' + W' = ((th + z1 + zc + K' + W' : Nat) : Int) from by simp]; exact wrap_u64 _ (by omega)
  have v5 : IntKind.u64.wrap ((z0 : Int) + zm) = (z0 : Int) + zm := by rw [show (z0 : Int) + zm = ((z0 + zm : Nat) : Int) from by simp]; exact wrap_u64 _ (by omega)
  have v6 : IntKind.u64.wrap ((x : Int) + y) = (x : Int) + y := by rw [show (x : Int) + y = ((x + y : Nat) : Int) from by simp]; exact wrap_u64 _ (by omega)
  have v7 : IntKind.u64.wrap ((td : Int) + x) = (td : Int) + x := by rw [show (td : Int) + x = ((td + x : Nat) : Int) from by simp]; exact wrap_u64 _ (by omega)
  have v8 : IntKind.u64.wrap (ne : Int) = (ne : Int) := wrap_u64 _ (by omega)
  have b1 : (0 : Int) ≤ (i : Int) := by omega
  have b2 : (i : Int) < 64 := by omega
  go_wp2_with fail
  go_quiet ((go_at_call 92; exact Calls.quiet_of (turn_c _ _ (by assumption) (by decide) _)))
  revert nq; intro n1
  go_wp2_with fail
  go_quiet (fail)
  obtain ⟨n2, hn2⟩ : ∃ n2, (wr.drewN n1).drewN nq = wr.drewN n2 := ⟨_, World.drewN_drewN ..⟩
  rw [hn2]
  clear hn2
  go_wp2_with fail
  go_quiet (fail)
  obtain ⟨n3, hn3⟩ : ∃ n2', (wr.drewN n2).drewN nq = wr.drewN n2' := ⟨_, World.drewN_drewN ..⟩
  rw [hn3]
  clear hn3
  go_wp2_with fail
  go_quiet ((go_at_call 92; exact quiet_add (turn_c _ _ (by assumption) (by decide) _)))
  obtain ⟨n4, hn4⟩ : ∃ n2', (wr.drewN n3).drewN nq = wr.drewN n2' := ⟨_, World.drewN_drewN ..⟩
  rw [hn4]
  clear hn4
  go_wp2_with fail
  go_quiet (fail)
  obtain ⟨n5, hn5⟩ : ∃ n2', (wr.drewN n4).drewN nq = wr.drewN n2' := ⟨_, World.drewN_drewN ..⟩
  rw [hn5]
  clear hn5
  go_wp2_with fail
  have C0 : (wr.drewN n5).cell? ⟨gw, 0, none⟩ = some (.int .u64 ta) := c0
  have C1 : (wr.drewN n5).cell? ⟨gw, 1, none⟩ = some (.int .u64 tb) := c1
  have C2 : (wr.drewN n5).cell? ⟨gw, 2, none⟩ = some (.int .u64 tc) := c2
  have C3 : (wr.drewN n5).cell? ⟨gw, 3, none⟩ = some (.int .u64 td) := c3
  have C4 : (wr.drewN n5).cell? ⟨gw, 4, none⟩ = some (.int .u64 te) := c4
  have C5 : (wr.drewN n5).cell? ⟨gw, 5, none⟩ = some (.int .u64 tf) := c5
  have C6 : (wr.drewN n5).cell? ⟨gw, 6, none⟩ = some (.int .u64 tg) := c6
  have C7 : (wr.drewN n5).cell? ⟨gw, 7, none⟩ = some (.int .u64 th) := c7
  have HB5 := Lib.hid (HB.out.drewN n5)
  clear c0 c1 c2 c3 c4 c5 c6 c7 HB cK cW s1 s0 sc sm
  generalize wr.drewN n5 = wq at C0 C1 C2 C3 C4 C5 C6 C7 HB5 ⊢
  go_still_tail 28, (by kernel_rfl)
  go_wp2_with fail
  refine HX.out _ _ _ _ _ _ _ _ _ _ _ _ _ _ _ _ _ _ _ _ _ _ _ _ _ _ _ _ _ _ _ _ _ _ _ _ _ _ _ _ _ _ _ _ _ _ _ _ _ _ _ _ _ _ _ _ _ _ _ _ _ _ _ _ _ _ _ _ _ _ _ _ _ _ _ _ _ _ _ _ _ _ _ _ _ _ _ _ _ _ _ _ _ _ _ _ _ _ _ _ _ _ _ _ _ _ _ _ _ _ _ _ _ _ _ _ _ _ _ _ _ _ _ _ _ _ _ _ _ ?_
  have HB6 := HB5.out.drew
  have hq : bh < wq.drew.heap.size := World.block_lt_of_cell? wq.drew _ (HB6.r.h 0 (by decide))
  refine ⟨by omega, ?_, ?_, ?_⟩
  · intro e
    rw [e] at hq
    exact Nat.lt_irrefl _ hq
  · exact HB6.kept (World.grownBy_alloc _ _ _)
  · show ∀ j, _
    rw [HKW.out.1, HKW.out.2, HST'.out]
    intro j hj
    refine (cell_of (w := World.alloc wq _) (heap_alloc_at _ _ _ rfl) j).trans ?_
    obtain rfl | rfl | rfl | rfl | rfl | rfl | rfl | rfl : j = 0 ∨ j = 1 ∨ j = 2 ∨ j = 3 ∨ j = 4 ∨ j = 5 ∨ j = 6 ∨ j = 7 := by omega
    all_goals simp [St.list]
end Go.Proofs.YtioahjdojgcfdaaDoor

namespace Go.Proofs.YtioahjdojgcfdaaDoor
open Go.RowKit

set_option maxRecDepth 100000 in
set_option maxHeartbeats 8000000 in
theorem round6 {w wr : World} {bk bh A m : Nat} {blk : List UInt8} {L : List Nat} {x_0 x_1 x_2 x_3 x_4 x_5 x_6 x_7 x_9 x_10 x_12 x_13 x_14 x_15 x_16 x_17 x_18 x_19 x_20 x_21 x_22 x_23 x_24 x_25 x_26 x_27 x_28 x_29 x_30 x_31 x_32 x_33 x_34 x_35 x_36 x_37 x_38 x_39 x_40 x_41 x_42 x_43 x_44 x_45 x_46 x_47 x_48 x_49 x_50 x_51 x_52 x_53 x_54 x_55 x_56 x_57 x_58 x_59 x_60 x_61 x_62 x_63 x_64 x_65 x_66 x_67 x_68 x_69 x_70 x_71 x_72 x_73 x_74 x_75 x_76 x_77 x_78 x_79 x_80 x_81 x_82 x_83 x_84 x_85 x_86 x_87 x_88 x_89 x_90 x_91 x_92 x_93 x_94 x_95 x_96 x_97 x_98 x_99 x_100 x_101 x_102 x_103 x_104 x_105 x_106 x_107 x_108 x_109 x_110 x_111 x_112 x_113 x_114 x_115 x_116 x_117 x_118 x_119 x_120 x_121 x_122 x_123 x_124 x_125 x_126 x_127 x_128 x_129 x_130 x_131 x_132 x_133 x_134 x_135 x_136 x_137 x_138 x_139 x_140 x_141 x_142 x_143 x_144 x_145 x_146 x_147 x_148 x_149 x_150 x_151 x_152 x_153 x_154 x_155 x_156 x_157 x_158 x_159 x_160 x_161 x_162 x_163 x_164 x_165 x_166 x_167 x_168 x_169 x_170 x_171 x_172 x_173 x_174 x_175 x_176 x_177 x_178 x_179 x_180 x_181 x_182 x_183 x_184 x_185 x_186 x_187 x_188 x_189 x_190 x_191 x_192 x_193 x_194 x_195 x_196 x_197 x_198 x_199 x_200 x_201 x_202 x_203 x_204 x_205 x_206 x_207 x_208 x_209 x_210 x_211 x_212 x_213 x_214 x_215 x_216 x_217 x_218 x_219 x_220 x_221 x_222 x_223 x_224 x_225 x_226 x_227 x_228 x_229 x_230 x_231 x_232 x_233 x_234 x_235 x_236 x_237 x_238 x_239 x_240 x_241 x_242 x_243 x_244 x_245 x_246 x_247 x_248 x_249 x_250 x_251 x_252 x_253 x_254 x_255 x_256 x_257 x_258 x_259 x_260 x_261 x_262 x_263 x_264 x_265 x_266 x_267 x_268 x_269 x_270 x_271 x_272 x_273 x_274 x_275 x_276 x_277 x_278 x_279 x_280 x_281 x_282 x_283 x_284 x_285 x_286 x_287 x_288 x_289 x_290 x_291 x_292 x_293 x_294 x_295 x_296 x_297 x_298 x_299 x_300 x_301 x_302 x_303 x_304 x_305 x_306 x_307 x_308 x_309 : Value} {K : Act → World → Prop} {Q0 : Exit → Act → World → Prop}
    (hm1 : 16 ≤ m) (hm2 : m ≤ 64) (hlt : m < 64) (HB : Hid (BW w wr bk bh A L (wordsM blk m)))
    (HX : Hid (∀ (y_12 y_13 y_85 y_86 y_87 y_88 y_89 y_90 y_91 y_92 y_93 y_94 y_95 y_96 y_97 y_98 y_99 y_100 y_101 y_102 y_103 y_104 y_105 y_106 y_107 y_108 y_109 y_110 y_111 y_112 y_113 y_114 y_115 y_116 y_117 y_118 y_119 y_120 y_121 y_122 y_123 y_124 y_125 y_126 y_127 y_128 y_129 y_130 y_131 y_132 y_133 y_134 y_135 y_136 y_137 y_138 y_139 y_140 y_141 y_142 y_143 y_144 y_145 y_146 y_147 : Value) (w2 : World), Hid (BW w w2 bk bh A L (wordsM blk (m + 1))) →
      K ⟨List.toArray (x_0 :: x_1 :: x_2 :: x_3 :: x_4 :: x_5 :: x_6 :: x_7 :: .slice (some ⟨A, 0, none⟩) 64 64 :: x_9 :: x_10 :: .int .i64 ((m : Int) + 1) :: y_12 :: y_13 :: x_14 :: x_15 :: x_16 :: x_17 :: x_18 :: x_19 :: x_20 :: x_21 :: x_22 :: x_23 :: x_24 :: x_25 :: x_26 :: x_27 :: x_28 :: x_29 :: x_30 :: x_31 :: x_32 :: x_33 :: x_34 :: x_35 :: x_36 :: x_37 :: x_38 :: x_39 :: x_40 :: x_41 :: x_42 :: x_43 :: x_44 :: x_45 :: x_46 :: x_47 :: x_48 :: x_49 :: x_50 :: x_51 :: x_52 :: x_53 :: x_54 :: x_55 :: x_56 :: x_57 :: x_58 :: x_59 :: x_60 :: x_61 :: x_62 :: x_63 :: x_64 :: x_65 :: x_66 :: x_67 :: x_68 :: x_69 :: x_70 :: x_71 :: x_72 :: x_73 :: x_74 :: x_75 :: x_76 :: x_77 :: x_78 :: x_79 :: x_80 :: x_81 :: x_82 :: x_83 :: x_84 :: y_85 :: y_86 :: y_87 :: y_88 :: y_89 :: y_90 :: y_91 :: y_92 :: y_93 :: y_94 :: y_95 :: y_96 :: y_97 :: y_98 :: y_99 :: y_100 :: y_101 :: y_102 :: y_103 :: y_104 :: y_105 :: y_106 :: y_107 :: y_108 :: y_109 :: y_110 :: y_111 :: y_112 :: y_113 :: y_114 :: y_115 :: y_116 :: y_117 :: y_118 :: y_119 :: y_120 :: y_121 :: y_122 :: y_123 :: y_124 :: y_125 :: y_126 :: y_127 :: y_128 :: y_129 :: y_130 :: y_131 :: y_132 :: y_133 :: y_134 :: y_135 :: y_136 :: y_137 :: y_138 :: y_139 :: y_140 :: y_141 :: y_142 :: y_143 :: y_144 :: y_145 :: y_146 :: y_147 :: x_148 :: x_149 :: x_150 :: x_151 :: x_152 :: x_153 :: x_154 :: x_155 :: x_156 :: x_157 :: x_158 :: x_159 :: x_160 :: x_161 :: x_162 :: x_163 :: x_164 :: x_165 :: x_166 :: x_167 :: x_168 :: x_169 :: x_170 :: x_171 :: x_172 :: x_173 :: x_174 :: x_175 :: x_176 :: x_177 :: x_178 :: x_179 :: x_180 :: x_181 :: x_182 :: x_183 :: x_184 :: x_185 :: x_186 :: x_187 :: x_188 :: x_189 :: x_190 :: x_191 :: x_192 :: x_193 :: x_194 :: x_195 :: x_196 :: x_197 :: x_198 :: x_199 :: x_200 :: x_201 :: x_202 :: x_203 :: x_204 :: x_205 :: x_206 :: x_207 :: x_208 :: x_209 :: x_210 :: x_211 :: x_212 :: x_213 :: x_214 :: x_215 :: x_216 :: x_217 :: x_218 :: x_219 :: x_220 :: x_221 :: x_222 :: x_223 :: x_224 :: x_225 :: x_226 :: x_227 :: x_228 :: x_229 :: x_230 :: x_231 :: x_232 :: x_233 :: x_234 :: x_235 :: x_236 :: x_237 :: x_238 :: x_239 :: x_240 :: x_241 :: x_242 :: x_243 :: x_244 :: x_245 :: x_246 :: x_247 :: x_248 :: x_249 :: x_250 :: x_251 :: x_252 :: x_253 :: x_254 :: x_255 :: x_256 :: x_257 :: x_258 :: x_259 :: x_260 :: x_261 :: x_262 :: x_263 :: x_264 :: x_265 :: x_266 :: x_267 :: x_268 :: x_269 :: x_270 :: x_271 :: x_272 :: x_273 :: x_274 :: x_275 :: x_276 :: x_277 :: x_278 :: x_279 :: x_280 :: x_281 :: x_282 :: x_283 :: x_284 :: x_285 :: x_286 :: x_287 :: x_288 :: x_289 :: x_290 :: x_291 :: x_292 :: x_293 :: x_294 :: x_295 :: x_296 :: x_297 :: x_298 :: x_299 :: x_300 :: x_301 :: x_302 :: x_303 :: x_304 :: x_305 :: x_306 :: x_307 :: x_308 :: x_309 :: []), []⟩ w2)) :
    Code.wp Tryd.prog (loopBody Tryd.f50 5) (Exit.then K Q0) ⟨List.toArray (x_0 :: x_1 :: x_2 :: x_3 :: x_4 :: x_5 :: x_6 :: x_7 :: .slice (some ⟨A, 0, none⟩) 64 64 :: x_9 :: x_10 :: .int .i64 m :: x_12 :: x_13 :: x_14 :: x_15 :: x_16 :: x_17 :: x_18 :: x_19 :: x_20 :: x_21 :: x_22 :: x_23 :: x_24 :: x_25 :: x_26 :: x_27 :: x_28 :: x_29 :: x_30 :: x_31 :: x_32 :: x_33 :: x_34 :: x_35 :: x_36 :: x_37 :: x_38 :: x_39 :: x_40 :: x_41 :: x_42 :: x_43 :: x_44 :: x_45 :: x_46 :: x_47 :: x_48 :: x_49 :: x_50 :: x_51 :: x_52 :: x_53 :: x_54 :: x_55 :: x_56 :: x_57 :: x_58 :: x_59 :: x_60 :: x_61 :: x_62 :: x_63 :: x_64 :: x_65 :: x_66 :: x_67 :: x_68 :: x_69 :: x_70 :: x_71 :: x_72 :: x_73 :: x_74 :: x_75 :: x_76 :: x_77 :: x_78 :: x_79 :: x_80 :: x_81 :: x_82 :: x_83 :: x_84 :: x_85 :: x_86 :: x_87 :: x_88 :: x_89 :: x_90 :: x_91 :: x_92 :: x_93 :: x_94 :: x_95 :: x_96 :: x_97 :: x_98 :: x_99 :: x_100 :: x_101 :: x_102 :: x_103 :: x_104 :: x_105 :: x_106 :: x_107 :: x_108 :: x_109 :: x_110 :: x_111 :: x_112 :: x_113 :: x_114 :: x_115 :: x_116 :: x_117 :: x_118 :: x_119 :: x_120 :: x_121 :: x_122 :: x_123 :: x_124 :: x_125 :: x_126 :: x_127 :: x_128 :: x_129 :: x_130 :: x_131 :: x_132 :: x_133 :: x_134 :: x_135 :: x_136 :: x_137 :: x_138 :: x_139 :: x_140 :: x_141 :: x_142 :: x_143 :: x_144 :: x_145 :: x_146 :: x_147 :: x_148 :: x_149 :: x_150 :: x_151 :: x_152 :: x_153 :: x_154 :: x_155 :: x_156 :: x_157 :: x_158 :: x_159 :: x_160 :: x_161 :: x_162 :: x_163 :: x_164 :: x_165 :: x_166 :: x_167 :: x_168 :: x_169 :: x_170 :: x_171 :: x_172 :: x_173 :: x_174 :: x_175 :: x_176 :: x_177 :: x_178 :: x_179 :: x_180 :: x_181 :: x_182 :: x_183 :: x_184 :: x_185 :: x_186 :: x_187 :: x_188 :: x_189 :: x_190 :: x_191 :: x_192 :: x_193 :: x_194 :: x_195 :: x_196 :: x_197 :: x_198 :: x_199 :: x_200 :: x_201 :: x_202 :: x_203 :: x_204 :: x_205 :: x_206 :: x_207 :: x_208 :: x_209 :: x_210 :: x_211 :: x_212 :: x_213 :: x_214 :: x_215 :: x_216 :: x_217 :: x_218 :: x_219 :: x_220 :: x_221 :: x_222 :: x_223 :: x_224 :: x_225 :: x_226 :: x_227 :: x_228 :: x_229 :: x_230 :: x_231 :: x_232 :: x_233 :: x_234 :: x_235 :: x_236 :: x_237 :: x_238 :: x_239 :: x_240 :: x_241 :: x_242 :: x_243 :: x_244 :: x_245 :: x_246 :: x_247 :: x_248 :: x_249 :: x_250 :: x_251 :: x_252 :: x_253 :: x_254 :: x_255 :: x_256 :: x_257 :: x_258 :: x_259 :: x_260 :: x_261 :: x_262 :: x_263 :: x_264 :: x_265 :: x_266 :: x_267 :: x_268 :: x_269 :: x_270 :: x_271 :: x_272 :: x_273 :: x_274 :: x_275 :: x_276 :: x_277 :: x_278 :: x_279 :: x_280 :: x_281 :: x_282 :: x_283 :: x_284 :: x_285 :: x_286 :: x_287 :: x_288 :: x_289 :: x_290 :: x_291 :: x_292 :: x_293 :: x_294 :: x_295 :: x_296 :: x_297 :: x_298 :: x_299 :: x_300 :: x_301 :: x_302 :: x_303 :: x_304 :: x_305 :: x_306 :: x_307 :: x_308 :: x_309 :: []), []⟩ wr := by
  conv => arg 2; whnf
  obtain ⟨i15, r15⟩ : ∃ i : Nat, (m : Int) - 15 = i := ⟨m - 15, by omega⟩
  obtain ⟨i2, r2⟩ : ∃ i : Nat, (m : Int) - 2 = i := ⟨m - 2, by omega⟩
  obtain ⟨i16, r16⟩ : ∃ i : Nat, (m : Int) - 16 = i := ⟨m - 16, by omega⟩
  obtain ⟨i7, r7⟩ : ∃ i : Nat, (m : Int) - 7 = i := ⟨m - 7, by omega⟩
  have hlen : (wordsM blk m).length = 64 := by simp [wordsM, more16_length blk m hm1]; omega
  have c15 : wr.cell? ⟨A, i15, none⟩ = some (.int .u64 ((more (m - 16) (words blk 16)).getD i15 0 : Nat)) := by rw [HB.out.x.cell i15 (by omega), wordsM_at blk m i15 hm1 (by omega)]
  have c2 : wr.cell? ⟨A, i2, none⟩ = some (.int .u64 ((more (m - 16) (words blk 16)).getD i2 0 : Nat)) := by rw [HB.out.x.cell i2 (by omega), wordsM_at blk m i2 hm1 (by omega)]
  have c16 : wr.cell? ⟨A, i16, none⟩ = some (.int .u64 ((more (m - 16) (words blk 16)).getD i16 0 : Nat)) := by rw [HB.out.x.cell i16 (by omega), wordsM_at blk m i16 hm1 (by omega)]
  have c7 : wr.cell? ⟨A, i7, none⟩ = some (.int .u64 ((more (m - 16) (words blk 16)).getD i7 0 : Nat)) := by rw [HB.out.x.cell i7 (by omega), wordsM_at blk m i7 hm1 (by omega)]
  have c0 : wr.cell? ⟨A, m, none⟩ = some (.int .u64 0) := by rw [HB.out.x.cell m (by omega), wordsM_zero blk m hm1 hlt]; rfl
  have f0 : wr.frozen? ⟨A, m, none⟩ = false := free_of HB.out.x m
  have hL := more_lt (m - 16) _ (words_lt blk 16)
  have l15 := getD_lt hL (by decide) i15
  have l2 := getD_lt hL (by decide) i2
  have l16 := getD_lt hL (by decide) i16
  have l7 := getD_lt hL (by decide) i7
  clear hL hlen
  generalize h15 : (more (m - 16) (words blk 16)).getD i15 0 = x15 at c15 l15
  generalize h2 : (more (m - 16) (words blk 16)).getD i2 0 = x2 at c2 l2
  generalize h16 : (more (m - 16) (words blk 16)).getD i16 0 = x16 at c16 l16
  generalize h7 : (more (m - 16) (words blk 16)).getD i7 0 = x7 at c7 l7
  have s15 := shr_64 (m := 8) (n := 3) (rotr_lt (n := 7) (by decide) l15) (rotr_lt (n := 18) (by decide) l15) l15 (by decide)
  have s2 := shr_64 (m := 1024) (n := 10) (rotr_lt (n := 17) (by decide) l2) (rotr_lt (n := 19) (by decide) l2) l2 (by decide)
  rw [show ((8 : Nat) : Int) = 8 from rfl] at s15
  rw [show ((1024 : Nat) : Int) = 1024 from rfl] at s2
  have m15 := sig0_lt l15
  have m2 := sig1_lt l2
  obtain ⟨y15, hy15⟩ : ∃ y, sig0 x15 = y := ⟨_, rfl⟩
  obtain ⟨y2, hy2⟩ : ∃ y, sig1 x2 = y := ⟨_, rfl⟩
  rw [show rotr 7 x15 ^^^ rotr 18 x15 ^^^ x15 / 2 ^ 3 = y15 from hy15] at s15
  rw [show rotr 17 x2 ^^^ rotr 19 x2 ^^^ x2 / 2 ^ 10 = y2 from hy2] at s2
  rw [hy15] at m15
  rw [hy2] at m2
  have H15 := Lib.hid (And.intro h15 hy15)
  have H2 := Lib.hid (And.intro h2 hy2)
  have H16 := Lib.hid h16
  have H7 := Lib.hid h7
  clear h15 h2 h16 h7 hy15 hy2
  have e15 : IntKind.i64.wrap (i15 : Int) = i15 := IntWalk.i64_in _ (by omega)
  have p15 : (0 : Int) ≤ (i15 : Int) := by omega
  have q15 : (i15 : Int) < 64 := by omega
  have e2 : IntKind.i64.wrap (i2 : Int) = i2 := IntWalk.i64_in _ (by omega)
  have p2 : (0 : Int) ≤ (i2 : Int) := by omega
  have q2 : (i2 : Int) < 64 := by omega
  have e16 : IntKind.i64.wrap (i16 : Int) = i16 := IntWalk.i64_in _ (by omega)
  have p16 : (0 : Int) ≤ (i16 : Int) := by omega
  have q16 : (i16 : Int) < 64 := by omega
  have e7 : IntKind.i64.wrap (i7 : Int) = i7 := IntWalk.i64_in _ (by omega)
  have p7 : (0 : Int) ≤ (i7 : Int) := by omega
  have q7 : (i7 : Int) < 64 := by omega
  have p0 : (0 : Int) ≤ (m : Int) := by omega
  have q0 : (m : Int) < 64 := by omega
  go_wp2_with fail
  go_quiet (first
    | (go_at_call 92; exact Calls.quiet_of (turn_c _ _ (by assumption) (by decide) _))
    | (go_at_call 91; exact Calls.quiet_of_same (shift_c _ _ (by assumption) (by decide) _)))
  revert nq; intro n1
  go_wp2_with fail
  go_quiet (first
    | (go_at_call 92; exact quiet_add (turn_c _ _ (by assumption) (by decide) _))
    | (go_at_call 91; exact quiet_add_same (shift_c _ _ (by assumption) (by decide) _)))
  go_wp2_with fail
  revert nq; intro n2
  have C16 : ((wr.drewN n1).drewN n2).cell? ⟨A, i16, none⟩ = some (.int .u64 x16) := by simpa using c16
  have C7 : ((wr.drewN n1).drewN n2).cell? ⟨A, i7, none⟩ = some (.int .u64 x7) := by simpa using c7
  have C0 : ((wr.drewN n1).drewN n2).cell? ⟨A, m, none⟩ = some (.int .u64 0) := by simpa using c0
  have F0 : ((wr.drewN n1).drewN n2).frozen? ⟨A, m, none⟩ = false := by simpa using f0
  have HQ := Lib.hid ((HB.out.drewN n1).drewN n2)
  clear c15 c2 c16 c7 c0 f0 HB s15 s2
  generalize (wr.drewN n1).drewN n2 = wq at C16 C7 C0 F0 HQ ⊢
  have w1 : IntKind.u64.wrap ((x16 : Int) + y15) = (x16 : Int) + y15 := by
    rw [show (x16 : Int) + y15 = ((x16 + y15 : Nat) : Int) from by simp]; exact wrap_u64 _ (by omega)
  have w2 : IntKind.u64.wrap ((x16 : Int) + y15 + x7) = (x16 : Int) + y15 + x7 := by
    rw [show (x16 : Int) + y15 + x7 = ((x16 + y15 + x7 : Nat) : Int) from by simp]; exact wrap_u64 _ (by omega)
  have w3 : IntKind.u64.wrap ((x16 : Int) + y15 + x7 + y2) = (x16 : Int) + y15 + x7 + y2 := by
    rw [show (x16 : Int) + y15 + x7 + y2 = ((x16 + y15 + x7 + y2 : Nat) : Int) from by simp]; exact wrap_u64 _ (by omega)
  go_still_tail 18, (by kernel_rfl)
  go_wp2_with fail
  refine HX.out _ _ _ _ _ _ _ _ _ _ _ _ _ _ _ _ _ _ _ _ _ _ _ _ _ _ _ _ _ _ _ _ _ _ _ _ _ _ _ _ _ _ _ _ _ _ _ _ _ _ _ _ _ _ _ _ _ _ _ _ _ _ _ _ _ _ ?_
  have := HQ.out.put m (nextW (more (m - 16) (words blk 16)))
  rw [wordsM_succ blk m hm1 hlt, nextW, more16_length blk m hm1] at this
  rw [show m - 16 = i16 from by omega, show m - 15 = i15 from by omega, show m - 7 = i7 from by omega, show m - 2 = i2 from by omega] at this
  have e16' := H16.out
  have e15' := H15.out
  have e7' := H7.out
  have e2' := H2.out
  rw [show m - 16 = i16 from by omega] at e16' e15' e7' e2'
  rw [e16', e15'.1, e7', e2'.1, e15'.2, e2'.2, next_sum] at this
  show BW _ _ _ _ _ _ _
  simpa using this.drew
end Go.Proofs.YtioahjdojgcfdaaDoor

namespace Go.Proofs.YtioahjdojgcfdaaDoor
open Go.RowKit

set_option maxRecDepth 100000 in
set_option maxHeartbeats 8000000 in
theorem round5 {w wr : World} {bk bh A k j at' : Nat} {u : ByteArray} {blk : List UInt8} {L : List Nat} {x_1 x_2 x_3 x_4 x_5 x_6 x_11 x_12 x_13 x_14 x_15 x_16 x_17 x_18 x_19 x_20 x_21 x_22 x_23 x_24 x_25 x_26 x_27 x_28 x_29 x_30 x_31 x_32 x_33 x_34 x_35 x_36 x_37 x_38 x_39 x_40 x_41 x_42 x_43 x_44 x_45 x_46 x_47 x_48 x_49 x_50 x_51 x_52 x_53 x_54 x_55 x_56 x_57 x_58 x_59 x_60 x_61 x_62 x_63 x_64 x_65 x_66 x_67 x_68 x_69 x_70 x_71 x_72 x_73 x_74 x_75 x_76 x_77 x_78 x_79 x_80 x_81 x_82 x_83 x_84 x_85 x_86 x_87 x_88 x_89 x_90 x_91 x_92 x_93 x_94 x_95 x_96 x_97 x_98 x_99 x_100 x_101 x_102 x_103 x_104 x_105 x_106 x_107 x_108 x_109 x_110 x_111 x_112 x_113 x_114 x_115 x_116 x_117 x_118 x_119 x_120 x_121 x_122 x_123 x_124 x_125 x_126 x_127 x_128 x_129 x_130 x_131 x_132 x_133 x_134 x_135 x_136 x_137 x_138 x_139 x_140 x_141 x_142 x_143 x_144 x_145 x_146 x_147 x_148 x_149 x_150 x_151 x_152 x_153 x_154 x_155 x_156 x_157 x_158 x_159 x_160 x_161 x_162 x_163 x_164 x_165 x_166 x_167 x_168 x_169 x_170 x_171 x_172 x_173 x_174 x_175 x_176 x_177 x_178 x_179 x_180 x_181 x_182 x_183 x_184 x_185 x_186 x_187 x_188 x_189 x_190 x_191 x_192 x_193 x_194 x_195 x_196 x_197 x_198 x_199 x_200 x_201 x_202 x_203 x_204 x_205 x_206 x_207 x_208 x_209 x_210 x_211 x_212 x_213 x_214 x_215 x_216 x_217 x_218 x_219 x_220 x_221 x_222 x_223 x_224 x_225 x_226 x_227 x_228 x_229 x_230 x_231 x_232 x_233 x_234 x_235 x_236 x_237 x_238 x_239 x_240 x_241 x_242 x_243 x_244 x_245 x_246 x_247 x_248 x_249 x_250 x_251 x_252 x_253 x_254 x_255 x_256 x_257 x_258 x_259 x_260 x_261 x_262 x_263 x_264 x_265 x_266 x_267 x_268 x_269 x_270 x_271 x_272 x_273 x_274 x_275 x_276 x_277 x_278 x_279 x_280 x_281 x_282 x_283 x_284 x_285 x_286 x_287 x_288 x_289 x_290 x_291 x_292 x_293 x_294 x_295 x_296 x_297 x_298 x_299 x_300 x_301 x_302 x_303 x_304 x_305 x_306 x_307 x_308 x_309 : Value} {K : Act → World → Prop} {Q0 : Exit → Act → World → Prop}
    (hlt : k < 16) (hjl : j < 4) (hb64 : at' + 64 ≤ u.size) (hul2 : u.size ≤ 1000200) (HBYT : Hid (∀ i (hi : i < 64), (u[at' + i]'(by omega)).toNat = (blk.getD i 0).toNat)) (HB : Hid (BW w wr bk bh A L ((wordsZ blk k).set k (part blk k j))))
    (HX : Hid (∀ (y_63 y_64 y_65 y_66 y_67 y_68 y_69 y_70 y_71 y_72 y_73 y_74 y_75 y_76 y_77 y_78 y_79 y_80 y_81 y_82 y_83 y_84 : Value) (w2 : World), Hid (BW w w2 bk bh A L ((wordsZ blk k).set k (part blk k (j + 1)))) →
      K ⟨List.toArray (.string u :: x_1 :: x_2 :: x_3 :: x_4 :: x_5 :: x_6 :: .int .i64 at' :: .slice (some ⟨A, 0, none⟩) 64 64 :: .int .i64 k :: .int .i64 ((j : Int) + 1) :: x_11 :: x_12 :: x_13 :: x_14 :: x_15 :: x_16 :: x_17 :: x_18 :: x_19 :: x_20 :: x_21 :: x_22 :: x_23 :: x_24 :: x_25 :: x_26 :: x_27 :: x_28 :: x_29 :: x_30 :: x_31 :: x_32 :: x_33 :: x_34 :: x_35 :: x_36 :: x_37 :: x_38 :: x_39 :: x_40 :: x_41 :: x_42 :: x_43 :: x_44 :: x_45 :: x_46 :: x_47 :: x_48 :: x_49 :: x_50 :: x_51 :: x_52 :: x_53 :: x_54 :: x_55 :: x_56 :: x_57 :: x_58 :: x_59 :: x_60 :: x_61 :: x_62 :: y_63 :: y_64 :: y_65 :: y_66 :: y_67 :: y_68 :: y_69 :: y_70 :: y_71 :: y_72 :: y_73 :: y_74 :: y_75 :: y_76 :: y_77 :: y_78 :: y_79 :: y_80 :: y_81 :: y_82 :: y_83 :: y_84 :: x_85 :: x_86 :: x_87 :: x_88 :: x_89 :: x_90 :: x_91 :: x_92 :: x_93 :: x_94 :: x_95 :: x_96 :: x_97 :: x_98 :: x_99 :: x_100 :: x_101 :: x_102 :: x_103 :: x_104 :: x_105 :: x_106 :: x_107 :: x_108 :: x_109 :: x_110 :: x_111 :: x_112 :: x_113 :: x_114 :: x_115 :: x_116 :: x_117 :: x_118 :: x_119 :: x_120 :: x_121 :: x_122 :: x_123 :: x_124 :: x_125 :: x_126 :: x_127 :: x_128 :: x_129 :: x_130 :: x_131 :: x_132 :: x_133 :: x_134 :: x_135 :: x_136 :: x_137 :: x_138 :: x_139 :: x_140 :: x_141 :: x_142 :: x_143 :: x_144 :: x_145 :: x_146 :: x_147 :: x_148 :: x_149 :: x_150 :: x_151 :: x_152 :: x_153 :: x_154 :: x_155 :: x_156 :: x_157 :: x_158 :: x_159 :: x_160 :: x_161 :: x_162 :: x_163 :: x_164 :: x_165 :: x_166 :: x_167 :: x_168 :: x_169 :: x_170 :: x_171 :: x_172 :: x_173 :: x_174 :: x_175 :: x_176 :: x_177 :: x_178 :: x_179 :: x_180 :: x_181 :: x_182 :: x_183 :: x_184 :: x_185 :: x_186 :: x_187 :: x_188 :: x_189 :: x_190 :: x_191 :: x_192 :: x_193 :: x_194 :: x_195 :: x_196 :: x_197 :: x_198 :: x_199 :: x_200 :: x_201 :: x_202 :: x_203 :: x_204 :: x_205 :: x_206 :: x_207 :: x_208 :: x_209 :: x_210 :: x_211 :: x_212 :: x_213 :: x_214 :: x_215 :: x_216 :: x_217 :: x_218 :: x_219 :: x_220 :: x_221 :: x_222 :: x_223 :: x_224 :: x_225 :: x_226 :: x_227 :: x_228 :: x_229 :: x_230 :: x_231 :: x_232 :: x_233 :: x_234 :: x_235 :: x_236 :: x_237 :: x_238 :: x_239 :: x_240 :: x_241 :: x_242 :: x_243 :: x_244 :: x_245 :: x_246 :: x_247 :: x_248 :: x_249 :: x_250 :: x_251 :: x_252 :: x_253 :: x_254 :: x_255 :: x_256 :: x_257 :: x_258 :: x_259 :: x_260 :: x_261 :: x_262 :: x_263 :: x_264 :: x_265 :: x_266 :: x_267 :: x_268 :: x_269 :: x_270 :: x_271 :: x_272 :: x_273 :: x_274 :: x_275 :: x_276 :: x_277 :: x_278 :: x_279 :: x_280 :: x_281 :: x_282 :: x_283 :: x_284 :: x_285 :: x_286 :: x_287 :: x_288 :: x_289 :: x_290 :: x_291 :: x_292 :: x_293 :: x_294 :: x_295 :: x_296 :: x_297 :: x_298 :: x_299 :: x_300 :: x_301 :: x_302 :: x_303 :: x_304 :: x_305 :: x_306 :: x_307 :: x_308 :: x_309 :: []), []⟩ w2)) :
    Code.wp Tryd.prog (loopBody Tryd.f50 4) (Exit.then K Q0) ⟨List.toArray (.string u :: x_1 :: x_2 :: x_3 :: x_4 :: x_5 :: x_6 :: .int .i64 at' :: .slice (some ⟨A, 0, none⟩) 64 64 :: .int .i64 k :: .int .i64 j :: x_11 :: x_12 :: x_13 :: x_14 :: x_15 :: x_16 :: x_17 :: x_18 :: x_19 :: x_20 :: x_21 :: x_22 :: x_23 :: x_24 :: x_25 :: x_26 :: x_27 :: x_28 :: x_29 :: x_30 :: x_31 :: x_32 :: x_33 :: x_34 :: x_35 :: x_36 :: x_37 :: x_38 :: x_39 :: x_40 :: x_41 :: x_42 :: x_43 :: x_44 :: x_45 :: x_46 :: x_47 :: x_48 :: x_49 :: x_50 :: x_51 :: x_52 :: x_53 :: x_54 :: x_55 :: x_56 :: x_57 :: x_58 :: x_59 :: x_60 :: x_61 :: x_62 :: x_63 :: x_64 :: x_65 :: x_66 :: x_67 :: x_68 :: x_69 :: x_70 :: x_71 :: x_72 :: x_73 :: x_74 :: x_75 :: x_76 :: x_77 :: x_78 :: x_79 :: x_80 :: x_81 :: x_82 :: x_83 :: x_84 :: x_85 :: x_86 :: x_87 :: x_88 :: x_89 :: x_90 :: x_91 :: x_92 :: x_93 :: x_94 :: x_95 :: x_96 :: x_97 :: x_98 :: x_99 :: x_100 :: x_101 :: x_102 :: x_103 :: x_104 :: x_105 :: x_106 :: x_107 :: x_108 :: x_109 :: x_110 :: x_111 :: x_112 :: x_113 :: x_114 :: x_115 :: x_116 :: x_117 :: x_118 :: x_119 :: x_120 :: x_121 :: x_122 :: x_123 :: x_124 :: x_125 :: x_126 :: x_127 :: x_128 :: x_129 :: x_130 :: x_131 :: x_132 :: x_133 :: x_134 :: x_135 :: x_136 :: x_137 :: x_138 :: x_139 :: x_140 :: x_141 :: x_142 :: x_143 :: x_144 :: x_145 :: x_146 :: x_147 :: x_148 :: x_149 :: x_150 :: x_151 :: x_152 :: x_153 :: x_154 :: x_155 :: x_156 :: x_157 :: x_158 :: x_159 :: x_160 :: x_161 :: x_162 :: x_163 :: x_164 :: x_165 :: x_166 :: x_167 :: x_168 :: x_169 :: x_170 :: x_171 :: x_172 :: x_173 :: x_174 :: x_175 :: x_176 :: x_177 :: x_178 :: x_179 :: x_180 :: x_181 :: x_182 :: x_183 :: x_184 :: x_185 :: x_186 :: x_187 :: x_188 :: x_189 :: x_190 :: x_191 :: x_192 :: x_193 :: x_194 :: x_195 :: x_196 :: x_197 :: x_198 :: x_199 :: x_200 :: x_201 :: x_202 :: x_203 :: x_204 :: x_205 :: x_206 :: x_207 :: x_208 :: x_209 :: x_210 :: x_211 :: x_212 :: x_213 :: x_214 :: x_215 :: x_216 :: x_217 :: x_218 :: x_219 :: x_220 :: x_221 :: x_222 :: x_223 :: x_224 :: x_225 :: x_226 :: x_227 :: x_228 :: x_229 :: x_230 :: x_231 :: x_232 :: x_233 :: x_234 :: x_235 :: x_236 :: x_237 :: x_238 :: x_239 :: x_240 :: x_241 :: x_242 :: x_243 :: x_244 :: x_245 :: x_246 :: x_247 :: x_248 :: x_249 :: x_250 :: x_251 :: x_252 :: x_253 :: x_254 :: x_255 :: x_256 :: x_257 :: x_258 :: x_259 :: x_260 :: x_261 :: x_262 :: x_263 :: x_264 :: x_265 :: x_266 :: x_267 :: x_268 :: x_269 :: x_270 :: x_271 :: x_272 :: x_273 :: x_274 :: x_275 :: x_276 :: x_277 :: x_278 :: x_279 :: x_280 :: x_281 :: x_282 :: x_283 :: x_284 :: x_285 :: x_286 :: x_287 :: x_288 :: x_289 :: x_290 :: x_291 :: x_292 :: x_293 :: x_294 :: x_295 :: x_296 :: x_297 :: x_298 :: x_299 :: x_300 :: x_301 :: x_302 :: x_303 :: x_304 :: x_305 :: x_306 :: x_307 :: x_308 :: x_309 :: []), []⟩ wr := by
  conv => arg 2; whnf
  have c1 : wr.cell? ⟨A, k, none⟩ = some (.int .u64 (part blk k j)) := by
    rw [HB.out.x.cell k (by rw [List.length_set, wordsZ_length _ _ (by omega)]; omega), List.getD_eq_getElem?_getD, List.getElem?_set_self (by rw [wordsZ_length _ _ (by omega)]; omega)]
    rfl
  have f1 : wr.frozen? ⟨A, k, none⟩ = false := free_of HB.out.x k
  have hby := HBYT.out (4 * k + j) (by omega)
  have hp : part blk k j < 16777216 := part_lt3 blk k j hjl
  have hv := (blk.getD (4 * k + j) 0).toNat_lt
  obtain ⟨p, hP⟩ : ∃ p, part blk k j = p := ⟨_, rfl⟩
  obtain ⟨v, hV⟩ : ∃ v, (blk.getD (4 * k + j) 0).toNat = v := ⟨_, rfl⟩
  rw [hP] at c1 hp
  rw [hV] at hby hv
  have HP := Lib.hid hP
  have HV := Lib.hid hV
  clear hP hV
  have b1 : (0 : Int) ≤ (k : Int) := by omega
  have b2 : (k : Int) < 64 := by omega
  have b3 : (0 : Int) ≤ (at' : Int) + 4 * (k : Int) + j := by omega
  have b4 : (at' : Int) + 4 * (k : Int) + j < u.size := by omega
  have b5 : IntKind.i64.wrap (4 * (k : Int)) = 4 * (k : Int) := IntWalk.i64_in _ (by omega)
  have b6 : IntKind.i64.wrap ((at' : Int) + 4 * (k : Int)) = (at' : Int) + 4 * (k : Int) := IntWalk.i64_in _ (by omega)
  have b10 : IntKind.i64.wrap ((at' : Int) + 4 * (k : Int) + j) = (at' : Int) + 4 * (k : Int) + j := IntWalk.i64_in _ (by omega)
  have b7 : ((at' : Int) + 4 * (k : Int) + j).toNat = at' + (4 * k + j) := by omega
  have b8 : IntKind.u64.wrap (256 * (p : Int)) = 256 * (p : Int) := by
    simp only [IntKind.wrap, IntKind.bits, IntKind.signed, IntKind.min, IntKind.max]; simp; omega
  have b9 : IntKind.u64.wrap (v : Int) = (v : Int) := by
    simp only [IntKind.wrap, IntKind.bits, IntKind.signed, IntKind.min, IntKind.max]; simp; omega
  have b11 : IntKind.u64.wrap (256 * (p : Int) + v) = 256 * (p : Int) + v := by
    simp only [IntKind.wrap, IntKind.bits, IntKind.signed, IntKind.min, IntKind.max]; simp; omega
  have q : ∀ wX : World, (Instr.index 9 (.string u) (.int .i64 ((at' : Int) + 4 * (k : Int) + j))).run Tryd.prog wX = .ok (.int .u8 v) wX := by
    intro wX
    rw [run_index_string _ _ _ _ _ (by kernel_rfl), dif_pos ⟨b3, b4⟩]
    congr 2
    simp only [b7]
    rw [hby]
  have HBY := Lib.hid hby
  clear hby
  go_wp2_with fail
  go_still_tail 17, (by kernel_rfl)
  go_wp2_with fail
  refine HX.out _ _ _ _ _ _ _ _ _ _ _ _ _ _ _ _ _ _ _ _ _ _ _ ?_
  have := HB.out.put k (256 * p + v)
  rw [List.set_set] at this
  rw [part, HP.out, HV.out, Nat.mul_comm]
  show BW _ _ _ _ _ _ _
  simpa using this.drew
end Go.Proofs.YtioahjdojgcfdaaDoor

namespace Go.Proofs.YtioahjdojgcfdaaDoor
open Go.RowKit

set_option maxRecDepth 100000 in
set_option maxHeartbeats 8000000 in
theorem round8 {w wr : World} {bk bh gw caph capw i : Nat} {st t : St} {x_0 x_1 x_2 x_3 x_5 x_6 x_7 x_8 x_9 x_10 x_11 x_12 x_13 x_15 x_16 x_17 x_18 x_19 x_20 x_22 x_23 x_24 x_25 x_26 x_27 x_28 x_29 x_30 x_31 x_32 x_33 x_34 x_35 x_36 x_37 x_38 x_39 x_40 x_41 x_42 x_43 x_44 x_45 x_46 x_47 x_48 x_49 x_50 x_51 x_52 x_53 x_54 x_55 x_56 x_57 x_58 x_59 x_60 x_61 x_62 x_63 x_64 x_65 x_66 x_67 x_68 x_69 x_70 x_71 x_72 x_73 x_74 x_75 x_76 x_77 x_78 x_79 x_80 x_81 x_82 x_83 x_84 x_85 x_86 x_87 x_88 x_89 x_90 x_91 x_92 x_93 x_94 x_95 x_96 x_97 x_98 x_99 x_100 x_101 x_102 x_103 x_104 x_105 x_106 x_107 x_108 x_109 x_110 x_111 x_112 x_113 x_114 x_115 x_116 x_117 x_118 x_119 x_120 x_121 x_122 x_123 x_124 x_125 x_126 x_127 x_128 x_129 x_130 x_131 x_132 x_133 x_134 x_135 x_136 x_137 x_138 x_139 x_140 x_141 x_142 x_143 x_144 x_145 x_146 x_147 x_148 x_149 x_150 x_151 x_152 x_153 x_154 x_155 x_156 x_157 x_158 x_159 x_160 x_161 x_162 x_163 x_164 x_165 x_166 x_167 x_168 x_169 x_170 x_171 x_172 x_173 x_174 x_175 x_176 x_177 x_178 x_179 x_180 x_181 x_182 x_183 x_184 x_185 x_186 x_187 x_188 x_189 x_190 x_191 x_192 x_193 x_194 x_195 x_196 x_197 x_198 x_199 x_200 x_201 x_202 x_203 x_204 x_205 x_206 x_207 x_208 x_209 x_210 x_211 x_212 x_213 x_214 x_215 x_216 x_217 x_218 x_219 x_220 x_221 x_222 x_223 x_224 x_225 x_226 x_227 x_228 x_229 x_230 x_231 x_232 x_233 x_234 x_235 x_236 x_237 x_238 x_239 x_240 x_241 x_242 x_243 x_244 x_245 x_246 x_247 x_248 x_249 x_250 x_251 x_252 x_253 x_254 x_255 x_256 x_257 x_258 x_259 x_260 x_261 x_262 x_263 x_264 x_265 x_266 x_267 x_268 x_269 x_270 x_271 x_272 x_273 x_274 x_275 x_276 x_277 x_278 x_279 x_280 x_281 x_282 x_283 x_284 x_285 x_286 x_287 x_288 x_289 x_290 x_291 x_292 x_293 x_294 x_295 x_296 x_297 x_298 x_299 x_300 x_301 x_302 x_303 x_304 x_305 x_306 x_307 x_308 x_309 : Value} {K : Act → World → Prop} {Q0 : Exit → Act → World → Prop}
    (hlt : i < 8) (stOk : st.ok) (tOk : t.ok) (hgw : bh ≠ gw) (hBh : w.heap.size ≤ bh) (hkb : bk ≠ bh) (HR : Hid (RW w wr bk bh ((st.add t).list.take i ++ st.list.drop i))) (HV : Hid (∀ j, j < 8 → wr.cell? ⟨gw, j, none⟩ = some (.int .u64 (t.list.getD j 0 : Nat))))
    (HX : Hid (∀ (y_272 y_273 y_274 y_275 y_276 y_277 y_278 y_279 y_280 y_281 y_282 y_283 y_284 y_285 y_286 y_287 y_288 : Value) (w2 : World), Hid (RW w w2 bk bh ((st.add t).list.take (i + 1) ++ st.list.drop (i + 1))) ∧ Hid (∀ j, j < 8 → w2.cell? ⟨gw, j, none⟩ = some (.int .u64 (t.list.getD j 0 : Nat))) →
      K ⟨List.toArray (x_0 :: x_1 :: x_2 :: x_3 :: .slice (some ⟨bh, 0, none⟩) 8 caph :: x_5 :: x_6 :: x_7 :: x_8 :: x_9 :: x_10 :: x_11 :: x_12 :: x_13 :: .slice (some ⟨gw, 0, none⟩) 8 capw :: x_15 :: x_16 :: x_17 :: x_18 :: x_19 :: x_20 :: .int .i64 ((i : Int) + 1) :: x_22 :: x_23 :: x_24 :: x_25 :: x_26 :: x_27 :: x_28 :: x_29 :: x_30 :: x_31 :: x_32 :: x_33 :: x_34 :: x_35 :: x_36 :: x_37 :: x_38 :: x_39 :: x_40 :: x_41 :: x_42 :: x_43 :: x_44 :: x_45 :: x_46 :: x_47 :: x_48 :: x_49 :: x_50 :: x_51 :: x_52 :: x_53 :: x_54 :: x_55 :: x_56 :: x_57 :: x_58 :: x_59 :: x_60 :: x_61 :: x_62 :: x_63 :: x_64 :: x_65 :: x_66 :: x_67 :: x_68 :: x_69 :: x_70 :: x_71 :: x_72 :: x_73 :: x_74 :: x_75 :: x_76 :: x_77 :: x_78 :: x_79 :: x_80 :: x_81 :: x_82 :: x_83 :: x_84 :: x_85 :: x_86 :: x_87 :: x_88 :: x_89 :: x_90 :: x_91 :: x_92 :: x_93 :: x_94 :: x_95 :: x_96 :: x_97 :: x_98 :: x_99 :: x_100 :: x_101 :: x_102 :: x_103 :: x_104 :: x_105 :: x_106 :: x_107 :: x_108 :: x_109 :: x_110 :: x_111 :: x_112 :: x_113 :: x_114 :: x_115 :: x_116 :: x_117 :: x_118 :: x_119 :: x_120 :: x_121 :: x_122 :: x_123 :: x_124 :: x_125 :: x_126 :: x_127 :: x_128 :: x_129 :: x_130 :: x_131 :: x_132 :: x_133 :: x_134 :: x_135 :: x_136 :: x_137 :: x_138 :: x_139 :: x_140 :: x_141 :: x_142 :: x_143 :: x_144 :: x_145 :: x_146 :: x_147 :: x_148 :: x_149 :: x_150 :: x_151 :: x_152 :: x_153 :: x_154 :: x_155 :: x_156 :: x_157 :: x_158 :: x_159 :: x_160 :: x_161 :: x_162 :: x_163 :: x_164 :: x_165 :: x_166 :: x_167 :: x_168 :: x_169 :: x_170 :: x_171 :: x_172 :: x_173 :: x_174 :: x_175 :: x_176 :: x_177 :: x_178 :: x_179 :: x_180 :: x_181 :: x_182 :: x_183 :: x_184 :: x_185 :: x_186 :: x_187 :: x_188 :: x_189 :: x_190 :: x_191 :: x_192 :: x_193 :: x_194 :: x_195 :: x_196 :: x_197 :: x_198 :: x_199 :: x_200 :: x_201 :: x_202 :: x_203 :: x_204 :: x_205 :: x_206 :: x_207 :: x_208 :: x_209 :: x_210 :: x_211 :: x_212 :: x_213 :: x_214 :: x_215 :: x_216 :: x_217 :: x_218 :: x_219 :: x_220 :: x_221 :: x_222 :: x_223 :: x_224 :: x_225 :: x_226 :: x_227 :: x_228 :: x_229 :: x_230 :: x_231 :: x_232 :: x_233 :: x_234 :: x_235 :: x_236 :: x_237 :: x_238 :: x_239 :: x_240 :: x_241 :: x_242 :: x_243 :: x_244 :: x_245 :: x_246 :: x_247 :: x_248 :: x_249 :: x_250 :: x_251 :: x_252 :: x_253 :: x_254 :: x_255 :: x_256 :: x_257 :: x_258 :: x_259 :: x_260 :: x_261 :: x_262 :: x_263 :: x_264 :: x_265 :: x_266 :: x_267 :: x_268 :: x_269 :: x_270 :: x_271 :: y_272 :: y_273 :: y_274 :: y_275 :: y_276 :: y_277 :: y_278 :: y_279 :: y_280 :: y_281 :: y_282 :: y_283 :: y_284 :: y_285 :: y_286 :: y_287 :: y_288 :: x_289 :: x_290 :: x_291 :: x_292 :: x_293 :: x_294 :: x_295 :: x_296 :: x_297 :: x_298 :: x_299 :: x_300 :: x_301 :: x_302 :: x_303 :: x_304 :: x_305 :: x_306 :: x_307 :: x_308 :: x_309 :: []), []⟩ w2)) :
    Code.wp Tryd.prog (loopBody Tryd.f50 7) (Exit.then K Q0) ⟨List.toArray (x_0 :: x_1 :: x_2 :: x_3 :: .slice (some ⟨bh, 0, none⟩) 8 caph :: x_5 :: x_6 :: x_7 :: x_8 :: x_9 :: x_10 :: x_11 :: x_12 :: x_13 :: .slice (some ⟨gw, 0, none⟩) 8 capw :: x_15 :: x_16 :: x_17 :: x_18 :: x_19 :: x_20 :: .int .i64 i :: x_22 :: x_23 :: x_24 :: x_25 :: x_26 :: x_27 :: x_28 :: x_29 :: x_30 :: x_31 :: x_32 :: x_33 :: x_34 :: x_35 :: x_36 :: x_37 :: x_38 :: x_39 :: x_40 :: x_41 :: x_42 :: x_43 :: x_44 :: x_45 :: x_46 :: x_47 :: x_48 :: x_49 :: x_50 :: x_51 :: x_52 :: x_53 :: x_54 :: x_55 :: x_56 :: x_57 :: x_58 :: x_59 :: x_60 :: x_61 :: x_62 :: x_63 :: x_64 :: x_65 :: x_66 :: x_67 :: x_68 :: x_69 :: x_70 :: x_71 :: x_72 :: x_73 :: x_74 :: x_75 :: x_76 :: x_77 :: x_78 :: x_79 :: x_80 :: x_81 :: x_82 :: x_83 :: x_84 :: x_85 :: x_86 :: x_87 :: x_88 :: x_89 :: x_90 :: x_91 :: x_92 :: x_93 :: x_94 :: x_95 :: x_96 :: x_97 :: x_98 :: x_99 :: x_100 :: x_101 :: x_102 :: x_103 :: x_104 :: x_105 :: x_106 :: x_107 :: x_108 :: x_109 :: x_110 :: x_111 :: x_112 :: x_113 :: x_114 :: x_115 :: x_116 :: x_117 :: x_118 :: x_119 :: x_120 :: x_121 :: x_122 :: x_123 :: x_124 :: x_125 :: x_126 :: x_127 :: x_128 :: x_129 :: x_130 :: x_131 :: x_132 :: x_133 :: x_134 :: x_135 :: x_136 :: x_137 :: x_138 :: x_139 :: x_140 :: x_141 :: x_142 :: x_143 :: x_144 :: x_145 :: x_146 :: x_147 :: x_148 :: x_149 :: x_150 :: x_151 :: x_152 :: x_153 :: x_154 :: x_155 :: x_156 :: x_157 :: x_158 :: x_159 :: x_160 :: x_161 :: x_162 :: x_163 :: x_164 :: x_165 :: x_166 :: x_167 :: x_168 :: x_169 :: x_170 :: x_171 :: x_172 :: x_173 :: x_174 :: x_175 :: x_176 :: x_177 :: x_178 :: x_179 :: x_180 :: x_181 :: x_182 :: x_183 :: x_184 :: x_185 :: x_186 :: x_187 :: x_188 :: x_189 :: x_190 :: x_191 :: x_192 :: x_193 :: x_194 :: x_195 :: x_196 :: x_197 :: x_198 :: x_199 :: x_200 :: x_201 :: x_202 :: x_203 :: x_204 :: x_205 :: x_206 :: x_207 :: x_208 :: x_209 :: x_210 :: x_211 :: x_212 :: x_213 :: x_214 :: x_215 :: x_216 :: x_217 :: x_218 :: x_219 :: x_220 :: x_221 :: x_222 :: x_223 :: x_224 :: x_225 :: x_226 :: x_227 :: x_228 :: x_229 :: x_230 :: x_231 :: x_232 :: x_233 :: x_234 :: x_235 :: x_236 :: x_237 :: x_238 :: x_239 :: x_240 :: x_241 :: x_242 :: x_243 :: x_244 :: x_245 :: x_246 :: x_247 :: x_248 :: x_249 :: x_250 :: x_251 :: x_252 :: x_253 :: x_254 :: x_255 :: x_256 :: x_257 :: x_258 :: x_259 :: x_260 :: x_261 :: x_262 :: x_263 :: x_264 :: x_265 :: x_266 :: x_267 :: x_268 :: x_269 :: x_270 :: x_271 :: x_272 :: x_273 :: x_274 :: x_275 :: x_276 :: x_277 :: x_278 :: x_279 :: x_280 :: x_281 :: x_282 :: x_283 :: x_284 :: x_285 :: x_286 :: x_287 :: x_288 :: x_289 :: x_290 :: x_291 :: x_292 :: x_293 :: x_294 :: x_295 :: x_296 :: x_297 :: x_298 :: x_299 :: x_300 :: x_301 :: x_302 :: x_303 :: x_304 :: x_305 :: x_306 :: x_307 :: x_308 :: x_309 :: []), []⟩ wr := by
  conv => arg 2; whnf
  have c1 := HR.out.h i hlt
  have c2 := HV.out i hlt
  have f1 := HR.out.free i
  rw [half_at st t i hlt] at c1
  have l1 := getD_lt (list_ok stOk) (by decide) i
  have l2 := getD_lt (list_ok tOk) (by decide) i
  have hs := half_succ st t i hlt
  obtain ⟨x, hx⟩ : ∃ x, st.list.getD i 0 = x := ⟨_, rfl⟩
  obtain ⟨y, hy⟩ : ∃ x, t.list.getD i 0 = x := ⟨_, rfl⟩
  rw [hx] at c1 l1 hs
  rw [hy] at c2 l2 hs
  have HS := Lib.hid hs
  clear hs hx hy
  have v1 : IntKind.u64.wrap ((x : Int) + y) = (x : Int) + y := by rw [show (x : Int) + y = ((x + y : Nat) : Int) from by simp]; exact wrap_u64 _ (by omega)
  have b1 : (0 : Int) ≤ (i : Int) := by omega
  have b2 : (i : Int) < 8 := by omega
  go_wp2_with fail
  go_still_tail 12, (by kernel_rfl)
  go_wp2_with fail
  refine HX.out _ _ _ _ _ _ _ _ _ _ _ _ _ _ _ _ _ _ ?_
  have hL8 : ((st.add t).list.take i ++ st.list.drop i).length = 8 := by
    simp [St.list]
    omega
  refine ⟨?_, ?_⟩
  · have := HR.out.put hBh hkb hL8 i ((x + y) % 4294967296) hlt
    rw [HS.out] at this
    have h2 : RW w (wr.setCell ⟨bh, i, none⟩ (.int .u64 ((x + y) % 4294967296 : Nat))).drew bk bh ((st.add t).list.take (i + 1) ++ st.list.drop (i + 1)) := ⟨grownBy_drew this.g, this.k, this.c, this.h⟩
    show RW _ _ _ _ _
    simpa using h2
  · intro j hj
    rw [← HV.out j hj]
    unfold World.cell?
    have := heap_setCell_ne wr bh i (.int .u64 (((x : Int) + y) % 4294967296)) (i := gw) hgw
    simp only [World.drew]
    simp only [this]
end Go.Proofs.YtioahjdojgcfdaaDoor

namespace Go.Proofs.YtioahjdojgcfdaaDoor
open Go.RowKit

theorem shift_at (n k : Nat) (c m : Int) (hc : (k : Int) = c) (hn : n ≤ 4294967295) (hk : k ≤ 64) (hm : ((2 ^ k : Nat) : Int) = m) (w : World) :
    Calls Tryd.prog 91 #[.int .u64 n, .int .i64 c] w fun e w' => e = .returned (.int .u64 ((n : Int) / m)) ∧ w = w' := by
  subst hc
  exact (shift_any n k (by omega) (by omega) w).mono fun _ _ h => ⟨by rw [h.1, ← hm]; simp, h.2⟩

set_option maxHeartbeats 400000 in
set_option maxRecDepth 100000 in
theorem four_any (n : Nat) (hn : n ≤ 4294967295) (w : World) :
    Calls Tryd.prog 51 #[.int .i64 n] w fun e w' => e = .returned (.string (str (be n 4))) ∧ w.grownBy w' none := by
  have hcv : (convert 57 9 (.slice (some ⟨w.heap.size, 0, none⟩) 4 4)).run Tryd.prog (w.alloc (.cells #[Value.int .u8 ((n : Int) / 16777216), .int .u8 ((n : Int) / 65536 % 256), .int .u8 ((n : Int) / 256 % 256), .int .u8 ((n : Int) % 256)] 5)) = .ok (.string (str (be n 4))) (w.alloc (.cells #[Value.int .u8 ((n : Int) / 16777216), .int .u8 ((n : Int) / 65536 % 256), .int .u8 ((n : Int) / 256 % 256), .int .u8 ((n : Int) % 256)] 5)) := by
    have := row_string_w w _ (be n 4) (four_bytes n)
    rw [be_length, show (n : Int) / 16777216 % 256 = (n : Int) / 16777216 from by omega] at this
    exact this
  have c1 := shift_at n 24 24 16777216 rfl hn (by omega) (by decide) w
  have c2 := shift_at n 16 16 65536 rfl hn (by omega) (by decide) w
  have c3 := shift_at n 8 8 256 rfl hn (by omega) (by decide) w
  have H1 := Lib.hid c1
  have H2 := Lib.hid c2
  have H3 := Lib.hid c3
  clear c1 c2 c3
  go_enter Tryd.func51, Tryd.ntmps51
  go_wp2_with fail
  refine H1.out.mono ?_
  rintro e w' ⟨rfl, rfl⟩
  go_wp2_with fail
  refine H2.out.mono ?_
  rintro e w' ⟨rfl, rfl⟩
  go_wp2_with fail
  refine H3.out.mono ?_
  rintro e w' ⟨rfl, rfl⟩
  go_wp2_with fail
  go_ret
  exact ⟨rfl, World.grownBy_alloc _ _ _⟩
end Go.Proofs.YtioahjdojgcfdaaDoor

namespace Go.Proofs.YtioahjdojgcfdaaDoor
open Go.ChangeShapes Go.WideShapes Go.ChangeAt Go.RowKit Go.Lib Go.Shelf

/-- a listed array of 32-bit numbers, cell by cell -/
theorem u32_of_reads {w : World} {name : String} {g t : Nat} {n : Nat} (L : List Nat) (hL : L.length = n) (hn : Tryd.prog.globalNamed name = some g) (hy : (Tryd.prog.globals[g]?).map (·.type) = some t)
    (hu : Tryd.prog.underlying t = some (.array n 40)) (hc : Tryd.prog.cellsOf 40 = 1)
    (h : VarReads Tryd.prog w name (.agg (L.map fun n : Nat => .lit (.int .u32 (n : Int))))) (i : Nat) (hi : i < n) : w.cell? ⟨g, i, none⟩ = some (.int .u32 (L.getD i 0 : Nat)) := by
  obtain ⟨g', t', cs, fuel, p, hg, hty, hvar, hd⟩ := h
  obtain rfl := Option.some.inj (hn.symm.trans hg)
  obtain rfl := Option.some.inj (hy.symm.trans hty)
  obtain ⟨fuel', d, q, hdi, he⟩ := array_elem hu hd i hi
  rw [hc] at he
  obtain ⟨z, e0, x0, _⟩ := DataW.trod_int Tryd.underlying40 he
  have hd2 : d = .lit (.int .u32 (L.getD i 0 : Nat)) := by
    have hlt : i < L.length := by omega
    rw [List.getElem?_map, List.getElem?_eq_getElem hlt] at hdi
    rw [List.getD_eq_getElem?_getD, List.getElem?_eq_getElem hlt]
    exact (Option.some.inj hdi).symm
  rw [hd2] at x0
  rw [World.var?_cell hn hvar i]
  have := congrArg (fun l : List Value => l[0]?) e0
  simp [List.getElem?_take, List.getElem?_drop] at this
  rw [this]
  simp only [Prod.mk.injEq, DataW.lit.injEq, Lit.int.injEq, true_and] at x0
  rw [x0.1]

theorem start_is : (Rows.laid_plumbob_sha_start : DataW Unit) = .agg (start.list.map fun n : Nat => .lit (.int .u32 (n : Int))) := by kernel_rfl
theorem roots_is : (Rows.laid_plumbob_sha_roots : DataW Unit) = .agg (rootsL.map fun n : Nat => .lit (.int .u32 (n : Int))) := by kernel_rfl
theorem nStart : Tryd.prog.globalNamed "plumbob/sha.start" = some 0 := by kernel_rfl
theorem yStart : (Tryd.prog.globals[0]?).map (·.type) = some 172 := by kernel_rfl
theorem nRoots : Tryd.prog.globalNamed "plumbob/sha.roots" = some 1 := by kernel_rfl
theorem yRoots : (Tryd.prog.globals[1]?).map (·.type) = some 190 := by kernel_rfl
theorem cU32 : Tryd.prog.cellsOf 40 = 1 := by kernel_rfl
theorem shaReady_of_laid {w : World} (h : laidMet Tryd.prog [("plumbob/sha.start", Rows.laid_plumbob_sha_start), ("plumbob/sha.roots", Rows.laid_plumbob_sha_roots)] w) : ShaReady w := by
  have h1 := Lib.laidMet.reads h (.head _)
  have h2 := Lib.laidMet.reads h (.tail _ (.head _))
  rw [start_is] at h1
  rw [roots_is] at h2
  refine ⟨fun j v hv => ?_, fun i hi => u32_of_reads rootsL rfl nRoots yRoots Tryd.underlying190 cU32 h2 i hi⟩
  have hj : j < 8 := by
    have := (List.getElem?_eq_some_iff.1 hv).1
    rwa [u32s_length, St.list_length] at this
  rw [Nat.zero_add, u32_of_reads start.list rfl nStart yStart Tryd.underlying172 cU32 h1 j hj, ← hv, u32s_at _ _ (by rw [St.list_length]; exact hj)]

/-- the settled world, the two variables holding what their texts lay -/
noncomputable def shaWorld (os : Os) : World :=
  let w0 := World.holding Tryd.prog os ⟨#[], #[], []⟩
  let put (h : Array Obj) (g : Nat) (cs : Array Value) : Array Obj := h.modify g fun
    | .cells _ t frozen => .cells cs t frozen
    | o => o
  let h1 := put w0.heap 0 (u32s start.list).toArray
  let h2 := put h1 1 (u32s rootsL).toArray
  { w0 with heap := h2 }
theorem sha_met (os : Os) (args : Array Value) : laidMet Tryd.prog [("plumbob/sha.start", Rows.laid_plumbob_sha_start), ("plumbob/sha.roots", Rows.laid_plumbob_sha_roots)] ((shaWorld os).forCall (fun _ _ => 0) ⟨#[], args, []⟩).memory :=
  (LaidIn.of_run (l := [("plumbob/sha.start", Rows.laid_plumbob_sha_start), ("plumbob/sha.roots", Rows.laid_plumbob_sha_roots)]) [0, 1] 8 (by kernel_rfl) (by kernel_rfl) (by kernel_rfl) (by kernel_rfl)).met
theorem own : ownKnob Tryd.prog.godebug = none := by kernel_rfl
end Go.Proofs.YtioahjdojgcfdaaDoor

namespace Go.Proofs.YtioahjdojgcfdaaDoor
open Go.RowKit Go.ChangeShapes Go.WideShapes

theorem cell_plain' {w : World} {a : Addr} {n : Nat} {v : Value} (h : w.cell? (a.add n) = some v) : w.cell? ⟨a.block, a.off + n, none⟩ = some v := by
  have hs := World.cell?_spot h
  obtain ⟨b, o, sp⟩ := a
  by_cases hn : n = 0
  · subst hn
    have : sp = none := by simpa [Addr.add] using hs
    subst this
    simpa [Addr.add] using h
  · simpa [Addr.add, hn] using h

section
variable {H : Type} {enc : TypeId × Value → H} {P : Program} {w : World} {base : Nat} {spare : Nat → Bool} {held : Bool}
def byteOf : Value → UInt8 | .int _ n => UInt8.ofNat n.toNat | _ => 0
/-- an array of bytes -/
theorem open_byte_array {r : Reach} {b0 : Nat} {t e : TypeId} {n : Nat} {v : Value} {d : DataW H} {p : List MemPlace} (hu : P.underlying t = some (.array n e)) (he : P.underlying e = some (.int .u8)) (hce : P.cellsOf e = 1) (hct : P.cellsOf t = n)
    (hval : Value.okWide P w r b0 t v) (h : DataW.Trod enc P w base spare held t v d p) : ∃ l : List UInt8, l.length = n ∧ v = .agg (bytesV l).toArray := by
  simp only [Value.okWide, hu] at hval
  obtain ⟨cs, rfl, hsz, -⟩ := hval
  obtain ⟨fuel, hf⟩ := h
  obtain ⟨xs, m, rfl, hx, hcl, hxl, hat⟩ := DataW.trod_array hu hf
  have hcs : cs.toList.length = n := by rw [← hct]; simpa using hsz
  refine ⟨cs.toList.map byteOf, by simpa using hcs, ?_⟩
  congr 1
  apply Array.toList_inj.1
  apply List.ext_getElem (by simp [bytesV])
  intro i h1 h2
  have hi : i < n := by omega
  have h3 := hat i hi
  have hxi : xs[i]? = some (xs[i]'(by omega)) := List.getElem?_eq_getElem (by omega)
  have h4 : ((Value.agg cs).cells.toList.drop (i * P.cellsOf e)).take (P.cellsOf e) = [cs.toList[i]] := by
    rw [hce, Nat.mul_one]
    show (cs.toList.drop i).take 1 = _
    rw [List.drop_eq_getElem_cons (by omega)]
    rfl
  rw [h4, hxi] at h3
  obtain ⟨a, ea, -, wa⟩ := DataW.trod_int he h3
  simp only [List.cons.injEq, and_true] at ea
  have hb : 0 ≤ a ∧ a ≤ 255 := by simpa [Lit.wf, IntKind.min, IntKind.max, IntKind.signed, IntKind.bits] using wa
  simp only [bytesV, List.getElem_map, List.getElem_toArray, ea, byteOf]
  congr 1
  simp
  omega
/-- a slice of integers: nil, or cells -/
theorem open_int_slice {t e : TypeId} {a0 : Option Addr} {len cap : Nat} {d : DataW H} {p : List MemPlace} (ht : P.underlying t = some (.slice e)) (he : P.underlying e = some (.int .i64)) (hc : P.cellsOf e = 1)
    (h : DataW.Trod enc P w base spare held t (.slice a0 len cap) d p) : ∃ L : List Int, L.length = len ∧ IntsAt w (.slice a0 len cap) L ∧ len ≤ cap ∧ cap ≤ maxLen ∧ ∀ x ∈ L, -9223372036854775808 ≤ x ∧ x ≤ 9223372036854775807 := by
  obtain ⟨fuel, hf⟩ := h
  rcases open_ints ht he hc hf with ⟨hcs, hx⟩ | ⟨a, len', cap', zs, hcs, _, hl, hm, hz, hx, hcell, hws⟩
  · have hv : Value.slice a0 len cap = .slice none 0 0 := by simpa [Value.cells] using hcs
    cases hv
    exact ⟨[], rfl, IntsAt.nil _ _ _, Nat.le_refl _, by unfold maxLen; omega, by simp⟩
  · have hv : Value.slice a0 len cap = .slice (some a) len' cap' := by simpa [Value.cells] using hcs
    cases hv
    have hls : len ≤ zs.length := by rw [hz]; split <;> omega
    have hlen : (zs.take len).length = len := by simp; omega
    refine ⟨zs.take len, hlen, ⟨some a, cap, by rw [hlen], fun i hi => ?_⟩, hl, hm, fun x hx => ?_⟩
    · have hc' := hcell i (by omega)
      have h00 := World.cell?_spot (hcell 0 (by omega))
      obtain ⟨g, o, sp⟩ := a
      obtain rfl : sp = none := by simpa [Addr.add] using h00
      refine ⟨g, o, rfl, ?_⟩
      rw [cell_plain' hc', List.getElem_take, List.getD_eq_getElem?_getD, List.getElem?_eq_getElem (by omega)]
      rfl
    · have := hws x (List.mem_of_mem_take hx)
      simpa [Lit.wf, IntKind.min, IntKind.max, IntKind.signed, IntKind.bits] using this
/-- an array of integers -/
theorem open_int_array {r : Reach} {b0 : Nat} {t e : TypeId} {n : Nat} {k : IntKind} {v : Value} {d : DataW H} {p : List MemPlace} (hu : P.underlying t = some (.array n e)) (he : P.underlying e = some (.int k)) (hce : P.cellsOf e = 1) (hct : P.cellsOf t = n)
    (hval : Value.okWide P w r b0 t v) (h : DataW.Trod enc P w base spare held t v d p) : ∃ l : List Int, l.length = n ∧ (∀ x ∈ l, (Lit.int k x).wf = true) ∧ v = .agg (l.map (Value.int k)).toArray := by
  simp only [Value.okWide, hu] at hval
  obtain ⟨cs, rfl, hsz, -⟩ := hval
  obtain ⟨fuel, hf⟩ := h
  obtain ⟨xs, m, rfl, hx, hcl, hxl, hat⟩ := DataW.trod_array hu hf
  have hcs : cs.toList.length = n := by rw [← hct]; simpa using hsz
  have each : ∀ i (hi : i < n), ∃ a, cs.toList[i]'(by omega) = .int k a ∧ (Lit.int k a).wf = true := by
    intro i hi
    have h3 := hat i hi
    have hxi : xs[i]? = some (xs[i]'(by omega)) := List.getElem?_eq_getElem (by omega)
    have h4 : ((Value.agg cs).cells.toList.drop (i * P.cellsOf e)).take (P.cellsOf e) = [cs.toList[i]'(by omega)] := by
      rw [hce, Nat.mul_one]
      show (cs.toList.drop i).take 1 = _
      rw [List.drop_eq_getElem_cons (by omega)]
      rfl
    rw [h4, hxi] at h3
    obtain ⟨a, ea, -, wa⟩ := DataW.trod_int he h3
    simp only [List.cons.injEq, and_true] at ea
    exact ⟨a, ea, wa⟩
  refine ⟨cs.toList.map intOf, by simpa using hcs, ?_, ?_⟩
  · intro x hx
    obtain ⟨v, hv, rfl⟩ := List.mem_map.1 hx
    obtain ⟨i, hi, rfl⟩ := List.getElem_of_mem hv
    obtain ⟨a, ea, wa⟩ := each i (by omega)
    rw [ea]
    exact wa
  · congr 1
    apply Array.toList_inj.1
    apply List.ext_getElem (by simp)
    intro i h1 h2
    obtain ⟨a, ea, wa⟩ := each i (by omega)
    simp only [List.getElem_map, ea, intOf]
end
end Go.Proofs.YtioahjdojgcfdaaDoor

namespace Go.Proofs.YtioahjdojgcfdaaDoor
open Go.ChangeShapes Go.WideShapes Go.ChangeAt Go.RowKit

variable {H : Type} {enc : TypeId × Value → H} {P : Program}

/-- The row's post where nothing that was there has turned ('again' is false: nothing is asked of what is frozen). -/
theorem post_of_below {f : Func} {s : ChangeSpec} {apart fresh handsOn : Bool} {W W' : World} {args : Array Value} {v : Value} {ds gs : List (DataW H)} {before pa pv : List MemPlace}
    (hW : DataW.Whole enc P f.params.toList s.vars apart W args.toList ds gs before)
    (hres : ∀ (b : Nat) (sp : Nat → Bool) (hd : Bool), DataW.TrodAll enc P W' b sp hd f.resultTypes.toList (v.resultList f.resultTypes.size) (s.fn H (ds ++ gs)).results [])
    (hargs : ∀ sp : Nat → Bool, (∀ p ∈ before, sp p.block = true) → DataW.TrodAll enc P W' 0 sp true f.params.toList args.toList (s.fn H (ds ++ gs)).args pa)
    (hvars : ∀ sp : Nat → Bool, (∀ p ∈ before, sp p.block = true) → DataW.TrodVars enc P W' sp s.vars (s.fn H (ds ++ gs)).vars pv)
    (hps : before = pa ++ pv) (hk : Below W.heap.size W W') :
    s.post enc P f apart fresh handsOn false W args v W' := by
  have hold : ∀ p ∈ before, (fun b => decide (b < W.heap.size)) p.block = true := fun p hp => by simpa using hW.lt p hp
  refine ⟨ds, gs, before, [], pa, pv, hW, hres _ _ _, hargs _ hold, hvars _ hold, World.keptBut_mono (fun p hp => ⟨hp, ?_⟩) (hk.frame (· ∈ before)), fun h => by cases h⟩
  rw [hps, List.mem_append] at hp
  exact Or.inr hp

/-- The same, what was handed in being read again by 'Below.trod'. -/
theorem post_of_below_at {f : Func} {s : ChangeSpec} {apart fresh handsOn : Bool} {W W' : World} {args : Array Value} {v : Value} {ds gs : List (DataW H)} {before pa pv : List MemPlace}
    (hW : DataW.Whole enc P f.params.toList s.vars apart W args.toList ds gs before)
    (hres : ∀ (b : Nat) (sp : Nat → Bool) (hd : Bool), DataW.TrodAll enc P W' b sp hd f.resultTypes.toList (v.resultList f.resultTypes.size) (s.fn H (ds ++ gs)).results [])
    (hargs : DataW.TrodAll enc P W' 0 (fun b => decide (b < W.heap.size)) true f.params.toList args.toList (s.fn H (ds ++ gs)).args pa)
    (hvars : DataW.TrodVars enc P W' (fun b => decide (b < W.heap.size)) s.vars (s.fn H (ds ++ gs)).vars pv)
    (hps : before = pa ++ pv) (hk : Below W.heap.size W W') :
    s.post enc P f apart fresh handsOn false W args v W' := by
  refine ⟨ds, gs, before, [], pa, pv, hW, hres _ _ _, hargs, hvars, World.keptBut_mono (fun p hp => ⟨hp, ?_⟩) (hk.frame (· ∈ before)), fun h => by cases h⟩
  rw [hps, List.mem_append] at hp
  exact Or.inr hp
end Go.Proofs.YtioahjdojgcfdaaDoor
