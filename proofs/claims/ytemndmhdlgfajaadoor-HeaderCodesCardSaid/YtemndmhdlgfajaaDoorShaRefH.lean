/- A round of the document's schedule, its own theorem. -/
import Derived.Test.YtemndmhdlgfajaaDoorShaRefF
namespace Go.Proofs.YtemndmhdlgfajaaDoor
open Go.RowKit

set_option maxRecDepth 100000 in
set_option maxHeartbeats 8000000 in
theorem round6 {w wr : World} {bk bh A m : Nat} {blk : List UInt8} {L : List Nat} {x_0 x_1 x_2 x_3 x_4 x_5 x_6 x_7 x_9 x_10 x_12 x_13 x_14 x_15 x_16 x_17 x_18 x_19 x_20 x_21 x_22 x_23 x_24 x_25 x_26 x_27 x_28 x_29 x_30 x_31 x_32 x_33 x_34 x_35 x_36 x_37 x_38 x_39 x_40 x_41 x_42 x_43 x_44 x_45 x_46 x_47 x_48 x_49 x_50 x_51 x_52 x_53 x_54 x_55 x_56 x_57 x_58 x_59 x_60 x_61 x_62 x_63 x_64 x_65 x_66 x_67 x_68 x_69 x_70 x_71 x_72 x_73 x_74 x_75 x_76 x_77 x_78 x_79 x_80 x_81 x_82 x_83 x_84 x_85 x_86 x_87 x_88 x_89 x_90 x_91 x_92 x_93 x_94 x_95 x_96 x_97 x_98 x_99 x_100 x_101 x_102 x_103 x_104 x_105 x_106 x_107 x_108 x_109 x_110 x_111 x_112 x_113 x_114 x_115 x_116 x_117 x_118 x_119 x_120 x_121 x_122 x_123 x_124 x_125 x_126 x_127 x_128 x_129 x_130 x_131 x_132 x_133 x_134 x_135 x_136 x_137 x_138 x_139 x_140 x_141 x_142 x_143 x_144 x_145 x_146 x_147 x_148 x_149 x_150 x_151 x_152 x_153 x_154 x_155 x_156 x_157 x_158 x_159 x_160 x_161 x_162 x_163 x_164 x_165 x_166 x_167 x_168 x_169 x_170 x_171 x_172 x_173 x_174 x_175 x_176 x_177 x_178 x_179 x_180 x_181 x_182 x_183 x_184 x_185 x_186 x_187 x_188 x_189 x_190 x_191 x_192 x_193 x_194 x_195 x_196 x_197 x_198 x_199 x_200 x_201 x_202 x_203 x_204 x_205 x_206 x_207 x_208 x_209 x_210 x_211 x_212 x_213 x_214 x_215 x_216 x_217 x_218 x_219 x_220 x_221 x_222 x_223 x_224 x_225 x_226 x_227 x_228 x_229 x_230 x_231 x_232 x_233 x_234 x_235 x_236 x_237 x_238 x_239 x_240 x_241 x_242 x_243 x_244 x_245 x_246 x_247 x_248 x_249 x_250 x_251 x_252 x_253 x_254 x_255 x_256 x_257 x_258 x_259 x_260 x_261 x_262 x_263 x_264 x_265 x_266 x_267 x_268 x_269 x_270 x_271 x_272 x_273 x_274 x_275 x_276 x_277 x_278 x_279 x_280 x_281 x_282 x_283 x_284 x_285 x_286 x_287 x_288 x_289 x_290 x_291 x_292 x_293 x_294 x_295 x_296 x_297 x_298 x_299 x_300 x_301 x_302 x_303 x_304 x_305 x_306 x_307 x_308 x_309 : Value} {K : Act → World → Prop} {Q0 : Exit → Act → World → Prop}
    (hm1 : 16 ≤ m) (hm2 : m ≤ 64) (hlt : m < 64) (HB : Hid (BW w wr bk bh A L (wordsM blk m)))
    (HX : Hid (∀ (y_12 y_13 y_85 y_86 y_87 y_88 y_89 y_90 y_91 y_92 y_93 y_94 y_95 y_96 y_97 y_98 y_99 y_100 y_101 y_102 y_103 y_104 y_105 y_106 y_107 y_108 y_109 y_110 y_111 y_112 y_113 y_114 y_115 y_116 y_117 y_118 y_119 y_120 y_121 y_122 y_123 y_124 y_125 y_126 y_127 y_128 y_129 y_130 y_131 y_132 y_133 y_134 y_135 y_136 y_137 y_138 y_139 y_140 y_141 y_142 y_143 y_144 y_145 y_146 y_147 : Value) (w2 : World), Hid (BW w w2 bk bh A L (wordsM blk (m + 1))) →
      K ⟨List.toArray (x_0 :: x_1 :: x_2 :: x_3 :: x_4 :: x_5 :: x_6 :: x_7 :: .slice (some ⟨A, 0, none⟩) 64 64 :: x_9 :: x_10 :: .int .i64 ((m : Int) + 1) :: y_12 :: y_13 :: x_14 :: x_15 :: x_16 :: x_17 :: x_18 :: x_19 :: x_20 :: x_21 :: x_22 :: x_23 :: x_24 :: x_25 :: x_26 :: x_27 :: x_28 :: x_29 :: x_30 :: x_31 :: x_32 :: x_33 :: x_34 :: x_35 :: x_36 :: x_37 :: x_38 :: x_39 :: x_40 :: x_41 :: x_42 :: x_43 :: x_44 :: x_45 :: x_46 :: x_47 :: x_48 :: x_49 :: x_50 :: x_51 :: x_52 :: x_53 :: x_54 :: x_55 :: x_56 :: x_57 :: x_58 :: x_59 :: x_60 :: x_61 :: x_62 :: x_63 :: x_64 :: x_65 :: x_66 :: x_67 :: x_68 :: x_69 :: x_70 :: x_71 :: x_72 :: x_73 :: x_74 :: x_75 :: x_76 :: x_77 :: x_78 :: x_79 :: x_80 :: x_81 :: x_82 :: x_83 :: x_84 :: y_85 :: y_86 :: y_87 :: y_88 :: y_89 :: y_90 :: y_91 :: y_92 :: y_93 :: y_94 :: y_95 :: y_96 :: y_97 :: y_98 :: y_99 :: y_100 :: y_101 :: y_102 :: y_103 :: y_104 :: y_105 :: y_106 :: y_107 :: y_108 :: y_109 :: y_110 :: y_111 :: y_112 :: y_113 :: y_114 :: y_115 :: y_116 :: y_117 :: y_118 :: y_119 :: y_120 :: y_121 :: y_122 :: y_123 :: y_124 :: y_125 :: y_126 :: y_127 :: y_128 :: y_129 :: y_130 :: y_131 :: y_132 :: y_133 :: y_134 :: y_135 :: y_136 :: y_137 :: y_138 :: y_139 :: y_140 :: y_141 :: y_142 :: y_143 :: y_144 :: y_145 :: y_146 :: y_147 :: x_148 :: x_149 :: x_150 :: x_151 :: x_152 :: x_153 :: x_154 :: x_155 :: x_156 :: x_157 :: x_158 :: x_159 :: x_160 :: x_161 :: x_162 :: x_163 :: x_164 :: x_165 :: x_166 :: x_167 :: x_168 :: x_169 :: x_170 :: x_171 :: x_172 :: x_173 :: x_174 :: x_175 :: x_176 :: x_177 :: x_178 :: x_179 :: x_180 :: x_181 :: x_182 :: x_183 :: x_184 :: x_185 :: x_186 :: x_187 :: x_188 :: x_189 :: x_190 :: x_191 :: x_192 :: x_193 :: x_194 :: x_195 :: x_196 :: x_197 :: x_198 :: x_199 :: x_200 :: x_201 :: x_202 :: x_203 :: x_204 :: x_205 :: x_206 :: x_207 :: x_208 :: x_209 :: x_210 :: x_211 :: x_212 :: x_213 :: x_214 :: x_215 :: x_216 :: x_217 :: x_218 :: x_219 :: x_220 :: x_221 :: x_222 :: x_223 :: x_224 :: x_225 :: x_226 :: x_227 :: x_228 :: x_229 :: x_230 :: x_231 :: x_232 :: x_233 :: x_234 :: x_235 :: x_236 :: x_237 :: x_238 :: x_239 :: x_240 :: x_241 :: x_242 :: x_243 :: x_244 :: x_245 :: x_246 :: x_247 :: x_248 :: x_249 :: x_250 :: x_251 :: x_252 :: x_253 :: x_254 :: x_255 :: x_256 :: x_257 :: x_258 :: x_259 :: x_260 :: x_261 :: x_262 :: x_263 :: x_264 :: x_265 :: x_266 :: x_267 :: x_268 :: x_269 :: x_270 :: x_271 :: x_272 :: x_273 :: x_274 :: x_275 :: x_276 :: x_277 :: x_278 :: x_279 :: x_280 :: x_281 :: x_282 :: x_283 :: x_284 :: x_285 :: x_286 :: x_287 :: x_288 :: x_289 :: x_290 :: x_291 :: x_292 :: x_293 :: x_294 :: x_295 :: x_296 :: x_297 :: x_298 :: x_299 :: x_300 :: x_301 :: x_302 :: x_303 :: x_304 :: x_305 :: x_306 :: x_307 :: x_308 :: x_309 :: []), []⟩ w2)) :
    Code.wp Tryd.prog (loopBody Tryd.f74 5) (Exit.then K Q0) ⟨List.toArray (x_0 :: x_1 :: x_2 :: x_3 :: x_4 :: x_5 :: x_6 :: x_7 :: .slice (some ⟨A, 0, none⟩) 64 64 :: x_9 :: x_10 :: .int .i64 m :: x_12 :: x_13 :: x_14 :: x_15 :: x_16 :: x_17 :: x_18 :: x_19 :: x_20 :: x_21 :: x_22 :: x_23 :: x_24 :: x_25 :: x_26 :: x_27 :: x_28 :: x_29 :: x_30 :: x_31 :: x_32 :: x_33 :: x_34 :: x_35 :: x_36 :: x_37 :: x_38 :: x_39 :: x_40 :: x_41 :: x_42 :: x_43 :: x_44 :: x_45 :: x_46 :: x_47 :: x_48 :: x_49 :: x_50 :: x_51 :: x_52 :: x_53 :: x_54 :: x_55 :: x_56 :: x_57 :: x_58 :: x_59 :: x_60 :: x_61 :: x_62 :: x_63 :: x_64 :: x_65 :: x_66 :: x_67 :: x_68 :: x_69 :: x_70 :: x_71 :: x_72 :: x_73 :: x_74 :: x_75 :: x_76 :: x_77 :: x_78 :: x_79 :: x_80 :: x_81 :: x_82 :: x_83 :: x_84 :: x_85 :: x_86 :: x_87 :: x_88 :: x_89 :: x_90 :: x_91 :: x_92 :: x_93 :: x_94 :: x_95 :: x_96 :: x_97 :: x_98 :: x_99 :: x_100 :: x_101 :: x_102 :: x_103 :: x_104 :: x_105 :: x_106 :: x_107 :: x_108 :: x_109 :: x_110 :: x_111 :: x_112 :: x_113 :: x_114 :: x_115 :: x_116 :: x_117 :: x_118 :: x_119 :: x_120 :: x_121 :: x_122 :: x_123 :: x_124 :: x_125 :: x_126 :: x_127 :: x_128 :: x_129 :: x_130 :: x_131 :: x_132 :: x_133 :: x_134 :: x_135 :: x_136 :: x_137 :: x_138 :: x_139 :: x_140 :: x_141 :: x_142 :: x_143 :: x_144 :: x_145 :: x_146 :: x_147 :: x_148 :: x_149 :: x_150 :: x_151 :: x_152 :: x_153 :: x_154 :: x_155 :: x_156 :: x_157 :: x_158 :: x_159 :: x_160 :: x_161 :: x_162 :: x_163 :: x_164 :: x_165 :: x_166 :: x_167 :: x_168 :: x_169 :: x_170 :: x_171 :: x_172 :: x_173 :: x_174 :: x_175 :: x_176 :: x_177 :: x_178 :: x_179 :: x_180 :: x_181 :: x_182 :: x_183 :: x_184 :: x_185 :: x_186 :: x_187 :: x_188 :: x_189 :: x_190 :: x_191 :: x_192 :: x_193 :: x_194 :: x_195 :: x_196 :: x_197 :: x_198 :: x_199 :: x_200 :: x_201 :: x_202 :: x_203 :: x_204 :: x_205 :: x_206 :: x_207 :: x_208 :: x_209 :: x_210 :: x_211 :: x_212 :: x_213 :: x_214 :: x_215 :: x_216 :: x_217 :: x_218 :: x_219 :: x_220 :: x_221 :: x_222 :: x_223 :: x_224 :: x_225 :: x_226 :: x_227 :: x_228 :: x_229 :: x_230 :: x_231 :: x_232 :: x_233 :: x_234 :: x_235 :: x_236 :: x_237 :: x_238 :: x_239 :: x_240 :: x_241 :: x_242 :: x_243 :: x_244 :: x_245 :: x_246 :: x_247 :: x_248 :: x_249 :: x_250 :: x_251 :: x_252 :: x_253 :: x_254 :: x_255 :: x_256 :: x_257 :: x_258 :: x_259 :: x_260 :: x_261 :: x_262 :: x_263 :: x_264 :: x_265 :: x_266 :: x_267 :: x_268 :: x_269 :: x_270 :: x_271 :: x_272 :: x_273 :: x_274 :: x_275 :: x_276 :: x_277 :: x_278 :: x_279 :: x_280 :: x_281 :: x_282 :: x_283 :: x_284 :: x_285 :: x_286 :: x_287 :: x_288 :: x_289 :: x_290 :: x_291 :: x_292 :: x_293 :: x_294 :: x_295 :: x_296 :: x_297 :: x_298 :: x_299 :: x_300 :: x_301 :: x_302 :: x_303 :: x_304 :: x_305 :: x_306 :: x_307 :: x_308 :: x_309 :: []), []⟩ wr := by
  conv => arg 2; whnf
  obtain ⟨i15, r15⟩ : ∃ i : Nat, (m : Int) - 15 = i := ⟨m - 15, by omega⟩
  obtain ⟨i2, r2⟩ : ∃ i : Nat, (m : Int) - 2 = i := ⟨m - 2, by omega⟩
  obtain ⟨i16, r16⟩ : ∃ i : Nat, (m : Int) - 16 = i := ⟨m - 16, by omega⟩
  obtain ⟨i7, r7⟩ : ∃ i : Nat, (m : Int) - 7 = i := ⟨m - 7, by omega⟩
  have hlen : (wordsM blk m).length = 64 := by simp [wordsM, more16_length blk m hm1]; omega
  have c15 : wr.cell? ⟨A, i15, none⟩ = some (.int .u64 ((more (m - 16) (words blk 16)).getD i15 0 : Nat)) := by rw [HB.out.x.cell i15 (by omega), wordsM_at blk m i15 hm1 (by omega)]
  have c2 : wr.cell? ⟨A, i2, none⟩ = some (.int .u64 ((more (m - 16) (words blk 16)).getD i2 0 : Nat)) := by rw [HB.out.x.cell i2 (by omega), wordsM_at blk m i2 hm1 (by omega)]
  have c16 : wr.cell? ⟨A, i16, none⟩ = some (.int .u64 ((more (m - 16) (words blk 16)).getD i16 0 : Nat)) := by rw [HB.out.x.cell i16 (by omega), wordsM_at blk m i16 hm1 (by omega)]
  have c7 : wr.cell? ⟨A, i7, none⟩ = some (.int .u64 ((more (m - 16) (words blk 16)).getD i7 0 : Nat)) := by rw [HB.out.x.cell i7 (by omega), wordsM_at blk m i7 hm1 (by omega)]
  have c0 : wr.cell? ⟨A, m, none⟩ = some (.int .u64 0) := by rw [HB.out.x.cell m (by omega), wordsM_zero blk m hm1 hlt]; rfl
  have f0 : wr.frozen? ⟨A, m, none⟩ = false := free_of HB.out.x m
  have hL := more_lt (m - 16) _ (words_lt blk 16)
  have l15 := getD_lt hL (by decide) i15
  have l2 := getD_lt hL (by decide) i2
  have l16 := getD_lt hL (by decide) i16
  have l7 := getD_lt hL (by decide) i7
  clear hL hlen
  generalize h15 : (more (m - 16) (words blk 16)).getD i15 0 = x15 at c15 l15
  generalize h2 : (more (m - 16) (words blk 16)).getD i2 0 = x2 at c2 l2
  generalize h16 : (more (m - 16) (words blk 16)).getD i16 0 = x16 at c16 l16
  generalize h7 : (more (m - 16) (words blk 16)).getD i7 0 = x7 at c7 l7
  have s15 := shr_64 (m := 8) (n := 3) (rotr_lt (n := 7) (by decide) l15) (rotr_lt (n := 18) (by decide) l15) l15 (by decide)
  have s2 := shr_64 (m := 1024) (n := 10) (rotr_lt (n := 17) (by decide) l2) (rotr_lt (n := 19) (by decide) l2) l2 (by decide)
  rw [show ((8 : Nat) : Int) = 8 from rfl] at s15
  rw [show ((1024 : Nat) : Int) = 1024 from rfl] at s2
  have m15 := sig0_lt l15
  have m2 := sig1_lt l2
  obtain ⟨y15, hy15⟩ : ∃ y, sig0 x15 = y := ⟨_, rfl⟩
  obtain ⟨y2, hy2⟩ : ∃ y, sig1 x2 = y := ⟨_, rfl⟩
  rw [show rotr 7 x15 ^^^ rotr 18 x15 ^^^ x15 / 2 ^ 3 = y15 from hy15] at s15
  rw [show rotr 17 x2 ^^^ rotr 19 x2 ^^^ x2 / 2 ^ 10 = y2 from hy2] at s2
  rw [hy15] at m15
  rw [hy2] at m2
  have H15 := Lib.hid (And.intro h15 hy15)
  have H2 := Lib.hid (And.intro h2 hy2)
  have H16 := Lib.hid h16
  have H7 := Lib.hid h7
  clear h15 h2 h16 h7 hy15 hy2
  have e15 : IntKind.i64.wrap (i15 : Int) = i15 := IntWalk.i64_in _ (by omega)
  have p15 : (0 : Int) ≤ (i15 : Int) := by omega
  have q15 : (i15 : Int) < 64 := by omega
  have e2 : IntKind.i64.wrap (i2 : Int) = i2 := IntWalk.i64_in _ (by omega)
  have p2 : (0 : Int) ≤ (i2 : Int) := by omega
  have q2 : (i2 : Int) < 64 := by omega
  have e16 : IntKind.i64.wrap (i16 : Int) = i16 := IntWalk.i64_in _ (by omega)
  have p16 : (0 : Int) ≤ (i16 : Int) := by omega
  have q16 : (i16 : Int) < 64 := by omega
  have e7 : IntKind.i64.wrap (i7 : Int) = i7 := IntWalk.i64_in _ (by omega)
  have p7 : (0 : Int) ≤ (i7 : Int) := by omega
  have q7 : (i7 : Int) < 64 := by omega
  have p0 : (0 : Int) ≤ (m : Int) := by omega
  have q0 : (m : Int) < 64 := by omega
  go_wp2_with fail
  go_quiet (first
    | (go_at_call 86; exact Calls.quiet_of (turn_c _ _ (by assumption) (by decide) _))
    | (go_at_call 84; exact Calls.quiet_of_same (shift_c _ _ (by assumption) (by decide) _)))
  revert nq; intro n1
  go_wp2_with fail
  go_quiet (first
    | (go_at_call 86; exact quiet_add (turn_c _ _ (by assumption) (by decide) _))
    | (go_at_call 84; exact quiet_add_same (shift_c _ _ (by assumption) (by decide) _)))
  go_wp2_with fail
  revert nq; intro n2
  have C16 : ((wr.drewN n1).drewN n2).cell? ⟨A, i16, none⟩ = some (.int .u64 x16) := by simpa using c16
  have C7 : ((wr.drewN n1).drewN n2).cell? ⟨A, i7, none⟩ = some (.int .u64 x7) := by simpa using c7
  have C0 : ((wr.drewN n1).drewN n2).cell? ⟨A, m, none⟩ = some (.int .u64 0) := by simpa using c0
  have F0 : ((wr.drewN n1).drewN n2).frozen? ⟨A, m, none⟩ = false := by simpa using f0
  have HQ := Lib.hid ((HB.out.drewN n1).drewN n2)
  clear c15 c2 c16 c7 c0 f0 HB s15 s2
  generalize (wr.drewN n1).drewN n2 = wq at C16 C7 C0 F0 HQ ⊢
  have w1 : IntKind.u64.wrap ((x16 : Int) + y15) = (x16 : Int) + y15 := by
    rw [show (x16 : Int) + y15 = ((x16 + y15 : Nat) : Int) from by simp]; exact wrap_u64 _ (by omega)
  have w2 : IntKind.u64.wrap ((x16 : Int) + y15 + x7) = (x16 : Int) + y15 + x7 := by
    rw [show (x16 : Int) + y15 + x7 = ((x16 + y15 + x7 : Nat) : Int) from by simp]; exact wrap_u64 _ (by omega)
  have w3 : IntKind.u64.wrap ((x16 : Int) + y15 + x7 + y2) = (x16 : Int) + y15 + x7 + y2 := by
    rw [show (x16 : Int) + y15 + x7 + y2 = ((x16 + y15 + x7 + y2 : Nat) : Int) from by simp]; exact wrap_u64 _ (by omega)
  go_still_tail 18, (by kernel_rfl)
  go_wp2_with fail
  refine HX.out _ _ _ _ _ _ _ _ _ _ _ _ _ _ _ _ _ _ _ _ _ _ _ _ _ _ _ _ _ _ _ _ _ _ _ _ _ _ _ _ _ _ _ _ _ _ _ _ _ _ _ _ _ _ _ _ _ _ _ _ _ _ _ _ _ _ ?_
  have := HQ.out.put m (nextW (more (m - 16) (words blk 16)))
  rw [wordsM_succ blk m hm1 hlt, nextW, more16_length blk m hm1] at this
  rw [show m - 16 = i16 from by omega, show m - 15 = i15 from by omega, show m - 7 = i7 from by omega, show m - 2 = i2 from by omega] at this
  have e16' := H16.out
  have e15' := H15.out
  have e7' := H7.out
  have e2' := H2.out
  rw [show m - 16 = i16 from by omega] at e16' e15' e7' e2'
  rw [e16', e15'.1, e7', e2'.1, e15'.2, e2'.2, next_sum] at this
  show BW _ _ _ _ _ _ _
  simpa using this.drew
end Go.Proofs.YtemndmhdlgfajaaDoor
