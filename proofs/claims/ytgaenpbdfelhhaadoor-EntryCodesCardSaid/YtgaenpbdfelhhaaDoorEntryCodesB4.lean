/- A round of the document's reading of a word, its own theorem. · The walk of the document's Four, and small things that the sha laws share. -/
import Derived.Test.YtgaenpbdfelhhaaDoorShaRefF
import Derived.Test.YtgaenpbdfelhhaaDoorShaCalls
import Derived.Test.YtgaenpbdfelhhaaDoorEntryCodesB2
namespace Go.Proofs.YtgaenpbdfelhhaaDoor
open Go.RowKit

set_option maxRecDepth 100000 in
set_option maxHeartbeats 8000000 in
theorem round5 {w wr : World} {bk bh A k j at' : Nat} {u : ByteArray} {blk : List UInt8} {L : List Nat} {x_1 x_2 x_3 x_4 x_5 x_6 x_11 x_12 x_13 x_14 x_15 x_16 x_17 x_18 x_19 x_20 x_21 x_22 x_23 x_24 x_25 x_26 x_27 x_28 x_29 x_30 x_31 x_32 x_33 x_34 x_35 x_36 x_37 x_38 x_39 x_40 x_41 x_42 x_43 x_44 x_45 x_46 x_47 x_48 x_49 x_50 x_51 x_52 x_53 x_54 x_55 x_56 x_57 x_58 x_59 x_60 x_61 x_62 x_63 x_64 x_65 x_66 x_67 x_68 x_69 x_70 x_71 x_72 x_73 x_74 x_75 x_76 x_77 x_78 x_79 x_80 x_81 x_82 x_83 x_84 x_85 x_86 x_87 x_88 x_89 x_90 x_91 x_92 x_93 x_94 x_95 x_96 x_97 x_98 x_99 x_100 x_101 x_102 x_103 x_104 x_105 x_106 x_107 x_108 x_109 x_110 x_111 x_112 x_113 x_114 x_115 x_116 x_117 x_118 x_119 x_120 x_121 x_122 x_123 x_124 x_125 x_126 x_127 x_128 x_129 x_130 x_131 x_132 x_133 x_134 x_135 x_136 x_137 x_138 x_139 x_140 x_141 x_142 x_143 x_144 x_145 x_146 x_147 x_148 x_149 x_150 x_151 x_152 x_153 x_154 x_155 x_156 x_157 x_158 x_159 x_160 x_161 x_162 x_163 x_164 x_165 x_166 x_167 x_168 x_169 x_170 x_171 x_172 x_173 x_174 x_175 x_176 x_177 x_178 x_179 x_180 x_181 x_182 x_183 x_184 x_185 x_186 x_187 x_188 x_189 x_190 x_191 x_192 x_193 x_194 x_195 x_196 x_197 x_198 x_199 x_200 x_201 x_202 x_203 x_204 x_205 x_206 x_207 x_208 x_209 x_210 x_211 x_212 x_213 x_214 x_215 x_216 x_217 x_218 x_219 x_220 x_221 x_222 x_223 x_224 x_225 x_226 x_227 x_228 x_229 x_230 x_231 x_232 x_233 x_234 x_235 x_236 x_237 x_238 x_239 x_240 x_241 x_242 x_243 x_244 x_245 x_246 x_247 x_248 x_249 x_250 x_251 x_252 x_253 x_254 x_255 x_256 x_257 x_258 x_259 x_260 x_261 x_262 x_263 x_264 x_265 x_266 x_267 x_268 x_269 x_270 x_271 x_272 x_273 x_274 x_275 x_276 x_277 x_278 x_279 x_280 x_281 x_282 x_283 x_284 x_285 x_286 x_287 x_288 x_289 x_290 x_291 x_292 x_293 x_294 x_295 x_296 x_297 x_298 x_299 x_300 x_301 x_302 x_303 x_304 x_305 x_306 x_307 x_308 x_309 : Value} {K : Act → World → Prop} {Q0 : Exit → Act → World → Prop}
    (hlt : k < 16) (hjl : j < 4) (hb64 : at' + 64 ≤ u.size) (hul2 : u.size ≤ 1000200) (HBYT : Hid (∀ i (hi : i < 64), (u[at' + i]'(by omega)).toNat = (blk.getD i 0).toNat)) (HB : Hid (BW w wr bk bh A L ((wordsZ blk k).set k (part blk k j))))
    (HX : Hid (∀ (y_63 y_64 y_65 y_66 y_67 y_68 y_69 y_70 y_71 y_72 y_73 y_74 y_75 y_76 y_77 y_78 y_79 y_80 y_81 y_82 y_83 y_84 : Value) (w2 : World), Hid (BW w w2 bk bh A L ((wordsZ blk k).set k (part blk k (j + 1)))) →
      K ⟨List.toArray (.string u :: x_1 :: x_2 :: x_3 :: x_4 :: x_5 :: x_6 :: .int .i64 at' :: .slice (some ⟨A, 0, none⟩) 64 64 :: .int .i64 k :: .int .i64 ((j : Int) + 1) :: x_11 :: x_12 :: x_13 :: x_14 :: x_15 :: x_16 :: x_17 :: x_18 :: x_19 :: x_20 :: x_21 :: x_22 :: x_23 :: x_24 :: x_25 :: x_26 :: x_27 :: x_28 :: x_29 :: x_30 :: x_31 :: x_32 :: x_33 :: x_34 :: x_35 :: x_36 :: x_37 :: x_38 :: x_39 :: x_40 :: x_41 :: x_42 :: x_43 :: x_44 :: x_45 :: x_46 :: x_47 :: x_48 :: x_49 :: x_50 :: x_51 :: x_52 :: x_53 :: x_54 :: x_55 :: x_56 :: x_57 :: x_58 :: x_59 :: x_60 :: x_61 :: x_62 :: y_63 :: y_64 :: y_65 :: y_66 :: y_67 :: y_68 :: y_69 :: y_70 :: y_71 :: y_72 :: y_73 :: y_74 :: y_75 :: y_76 :: y_77 :: y_78 :: y_79 :: y_80 :: y_81 :: y_82 :: y_83 :: y_84 :: x_85 :: x_86 :: x_87 :: x_88 :: x_89 :: x_90 :: x_91 :: x_92 :: x_93 :: x_94 :: x_95 :: x_96 :: x_97 :: x_98 :: x_99 :: x_100 :: x_101 :: x_102 :: x_103 :: x_104 :: x_105 :: x_106 :: x_107 :: x_108 :: x_109 :: x_110 :: x_111 :: x_112 :: x_113 :: x_114 :: x_115 :: x_116 :: x_117 :: x_118 :: x_119 :: x_120 :: x_121 :: x_122 :: x_123 :: x_124 :: x_125 :: x_126 :: x_127 :: x_128 :: x_129 :: x_130 :: x_131 :: x_132 :: x_133 :: x_134 :: x_135 :: x_136 :: x_137 :: x_138 :: x_139 :: x_140 :: x_141 :: x_142 :: x_143 :: x_144 :: x_145 :: x_146 :: x_147 :: x_148 :: x_149 :: x_150 :: x_151 :: x_152 :: x_153 :: x_154 :: x_155 :: x_156 :: x_157 :: x_158 :: x_159 :: x_160 :: x_161 :: x_162 :: x_163 :: x_164 :: x_165 :: x_166 :: x_167 :: x_168 :: x_169 :: x_170 :: x_171 :: x_172 :: x_173 :: x_174 :: x_175 :: x_176 :: x_177 :: x_178 :: x_179 :: x_180 :: x_181 :: x_182 :: x_183 :: x_184 :: x_185 :: x_186 :: x_187 :: x_188 :: x_189 :: x_190 :: x_191 :: x_192 :: x_193 :: x_194 :: x_195 :: x_196 :: x_197 :: x_198 :: x_199 :: x_200 :: x_201 :: x_202 :: x_203 :: x_204 :: x_205 :: x_206 :: x_207 :: x_208 :: x_209 :: x_210 :: x_211 :: x_212 :: x_213 :: x_214 :: x_215 :: x_216 :: x_217 :: x_218 :: x_219 :: x_220 :: x_221 :: x_222 :: x_223 :: x_224 :: x_225 :: x_226 :: x_227 :: x_228 :: x_229 :: x_230 :: x_231 :: x_232 :: x_233 :: x_234 :: x_235 :: x_236 :: x_237 :: x_238 :: x_239 :: x_240 :: x_241 :: x_242 :: x_243 :: x_244 :: x_245 :: x_246 :: x_247 :: x_248 :: x_249 :: x_250 :: x_251 :: x_252 :: x_253 :: x_254 :: x_255 :: x_256 :: x_257 :: x_258 :: x_259 :: x_260 :: x_261 :: x_262 :: x_263 :: x_264 :: x_265 :: x_266 :: x_267 :: x_268 :: x_269 :: x_270 :: x_271 :: x_272 :: x_273 :: x_274 :: x_275 :: x_276 :: x_277 :: x_278 :: x_279 :: x_280 :: x_281 :: x_282 :: x_283 :: x_284 :: x_285 :: x_286 :: x_287 :: x_288 :: x_289 :: x_290 :: x_291 :: x_292 :: x_293 :: x_294 :: x_295 :: x_296 :: x_297 :: x_298 :: x_299 :: x_300 :: x_301 :: x_302 :: x_303 :: x_304 :: x_305 :: x_306 :: x_307 :: x_308 :: x_309 :: []), []⟩ w2)) :
    Code.wp Tryd.prog (loopBody Tryd.f47 4) (Exit.then K Q0) ⟨List.toArray (.string u :: x_1 :: x_2 :: x_3 :: x_4 :: x_5 :: x_6 :: .int .i64 at' :: .slice (some ⟨A, 0, none⟩) 64 64 :: .int .i64 k :: .int .i64 j :: x_11 :: x_12 :: x_13 :: x_14 :: x_15 :: x_16 :: x_17 :: x_18 :: x_19 :: x_20 :: x_21 :: x_22 :: x_23 :: x_24 :: x_25 :: x_26 :: x_27 :: x_28 :: x_29 :: x_30 :: x_31 :: x_32 :: x_33 :: x_34 :: x_35 :: x_36 :: x_37 :: x_38 :: x_39 :: x_40 :: x_41 :: x_42 :: x_43 :: x_44 :: x_45 :: x_46 :: x_47 :: x_48 :: x_49 :: x_50 :: x_51 :: x_52 :: x_53 :: x_54 :: x_55 :: x_56 :: x_57 :: x_58 :: x_59 :: x_60 :: x_61 :: x_62 :: x_63 :: x_64 :: x_65 :: x_66 :: x_67 :: x_68 :: x_69 :: x_70 :: x_71 :: x_72 :: x_73 :: x_74 :: x_75 :: x_76 :: x_77 :: x_78 :: x_79 :: x_80 :: x_81 :: x_82 :: x_83 :: x_84 :: x_85 :: x_86 :: x_87 :: x_88 :: x_89 :: x_90 :: x_91 :: x_92 :: x_93 :: x_94 :: x_95 :: x_96 :: x_97 :: x_98 :: x_99 :: x_100 :: x_101 :: x_102 :: x_103 :: x_104 :: x_105 :: x_106 :: x_107 :: x_108 :: x_109 :: x_110 :: x_111 :: x_112 :: x_113 :: x_114 :: x_115 :: x_116 :: x_117 :: x_118 :: x_119 :: x_120 :: x_121 :: x_122 :: x_123 :: x_124 :: x_125 :: x_126 :: x_127 :: x_128 :: x_129 :: x_130 :: x_131 :: x_132 :: x_133 :: x_134 :: x_135 :: x_136 :: x_137 :: x_138 :: x_139 :: x_140 :: x_141 :: x_142 :: x_143 :: x_144 :: x_145 :: x_146 :: x_147 :: x_148 :: x_149 :: x_150 :: x_151 :: x_152 :: x_153 :: x_154 :: x_155 :: x_156 :: x_157 :: x_158 :: x_159 :: x_160 :: x_161 :: x_162 :: x_163 :: x_164 :: x_165 :: x_166 :: x_167 :: x_168 :: x_169 :: x_170 :: x_171 :: x_172 :: x_173 :: x_174 :: x_175 :: x_176 :: x_177 :: x_178 :: x_179 :: x_180 :: x_181 :: x_182 :: x_183 :: x_184 :: x_185 :: x_186 :: x_187 :: x_188 :: x_189 :: x_190 :: x_191 :: x_192 :: x_193 :: x_194 :: x_195 :: x_196 :: x_197 :: x_198 :: x_199 :: x_200 :: x_201 :: x_202 :: x_203 :: x_204 :: x_205 :: x_206 :: x_207 :: x_208 :: x_209 :: x_210 :: x_211 :: x_212 :: x_213 :: x_214 :: x_215 :: x_216 :: x_217 :: x_218 :: x_219 :: x_220 :: x_221 :: x_222 :: x_223 :: x_224 :: x_225 :: x_226 :: x_227 :: x_228 :: x_229 :: x_230 :: x_231 :: x_232 :: x_233 :: x_234 :: x_235 :: x_236 :: x_237 :: x_238 :: x_239 :: x_240 :: x_241 :: x_242 :: x_243 :: x_244 :: x_245 :: x_246 :: x_247 :: x_248 :: x_249 :: x_250 :: x_251 :: x_252 :: x_253 :: x_254 :: x_255 :: x_256 :: x_257 :: x_258 :: x_259 :: x_260 :: x_261 :: x_262 :: x_263 :: x_264 :: x_265 :: x_266 :: x_267 :: x_268 :: x_269 :: x_270 :: x_271 :: x_272 :: x_273 :: x_274 :: x_275 :: x_276 :: x_277 :: x_278 :: x_279 :: x_280 :: x_281 :: x_282 :: x_283 :: x_284 :: x_285 :: x_286 :: x_287 :: x_288 :: x_289 :: x_290 :: x_291 :: x_292 :: x_293 :: x_294 :: x_295 :: x_296 :: x_297 :: x_298 :: x_299 :: x_300 :: x_301 :: x_302 :: x_303 :: x_304 :: x_305 :: x_306 :: x_307 :: x_308 :: x_309 :: []), []⟩ wr := by
  conv => arg 2; whnf
  have c1 : wr.cell? ⟨A, k, none⟩ = some (.int .u64 (part blk k j)) := by
    rw [HB.out.x.cell k (by rw [List.length_set, wordsZ_length _ _ (by omega)]; omega), List.getD_eq_getElem?_getD, List.getElem?_set_self (by rw [wordsZ_length _ _ (by omega)]; omega)]
    rfl
  have f1 : wr.frozen? ⟨A, k, none⟩ = false := free_of HB.out.x k
  have hby := HBYT.out (4 * k + j) (by omega)
  have hp : part blk k j < 16777216 := part_lt3 blk k j hjl
  have hv := (blk.getD (4 * k + j) 0).toNat_lt
  obtain ⟨p, hP⟩ : ∃ p, part blk k j = p := ⟨_, rfl⟩
  obtain ⟨v, hV⟩ : ∃ v, (blk.getD (4 * k + j) 0).toNat = v := ⟨_, rfl⟩
  rw [hP] at c1 hp
  rw [hV] at hby hv
  have HP := Lib.hid hP
  have HV := Lib.hid hV
  clear hP hV
  have b1 : (0 : Int) ≤ (k : Int) := by omega
  have b2 : (k : Int) < 64 := by omega
  have b3 : (0 : Int) ≤ (at' : Int) + 4 * (k : Int) + j := by omega
  have b4 : (at' : Int) + 4 * (k : Int) + j < u.size := by omega
  have b5 : IntKind.i64.wrap (4 * (k : Int)) = 4 * (k : Int) := IntWalk.i64_in _ (by omega)
  have b6 : IntKind.i64.wrap ((at' : Int) + 4 * (k : Int)) = (at' : Int) + 4 * (k : Int) := IntWalk.i64_in _ (by omega)
  have b10 : IntKind.i64.wrap ((at' : Int) + 4 * (k : Int) + j) = (at' : Int) + 4 * (k : Int) + j := IntWalk.i64_in _ (by omega)
  have b7 : ((at' : Int) + 4 * (k : Int) + j).toNat = at' + (4 * k + j) := by omega
  have b8 : IntKind.u64.wrap (256 * (p : Int)) = 256 * (p : Int) := by
    simp only [IntKind.wrap, IntKind.bits, IntKind.signed, IntKind.min, IntKind.max]; simp; omega
  have b9 : IntKind.u64.wrap (v : Int) = (v : Int) := by
    simp only [IntKind.wrap, IntKind.bits, IntKind.signed, IntKind.min, IntKind.max]; simp; omega
  have b11 : IntKind.u64.wrap (256 * (p : Int) + v) = 256 * (p : Int) + v := by
    simp only [IntKind.wrap, IntKind.bits, IntKind.signed, IntKind.min, IntKind.max]; simp; omega
  have q : ∀ wX : World, (Instr.index 9 (.string u) (.int .i64 ((at' : Int) + 4 * (k : Int) + j))).run Tryd.prog wX = .ok (.int .u8 v) wX := by
    intro wX
    rw [run_index_string _ _ _ _ _ (by kernel_rfl), dif_pos ⟨b3, b4⟩]
    congr 2
    simp only [b7]
    rw [hby]
  have HBY := Lib.hid hby
  clear hby
  go_wp2_with fail
  go_still_tail 17, (by kernel_rfl)
  go_wp2_with fail
  refine HX.out _ _ _ _ _ _ _ _ _ _ _ _ _ _ _ _ _ _ _ _ _ _ _ ?_
  have := HB.out.put k (256 * p + v)
  rw [List.set_set] at this
  rw [part, HP.out, HV.out, Nat.mul_comm]
  show BW _ _ _ _ _ _ _
  simpa using this.drew
end Go.Proofs.YtgaenpbdfelhhaaDoor

namespace Go.Proofs.YtgaenpbdfelhhaaDoor
open Go.RowKit

theorem shift_at (n k : Nat) (c m : Int) (hc : (k : Int) = c) (hn : n ≤ 4294967295) (hk : k ≤ 64) (hm : ((2 ^ k : Nat) : Int) = m) (w : World) :
    Calls Tryd.prog 74 #[.int .u64 n, .int .i64 c] w fun e w' => e = .returned (.int .u64 ((n : Int) / m)) ∧ w = w' := by
  subst hc
  exact (shift_any n k (by omega) (by omega) w).mono fun _ _ h => ⟨by rw [h.1, ← hm]; simp, h.2⟩

set_option maxHeartbeats 400000 in
set_option maxRecDepth 100000 in
theorem four_any (n : Nat) (hn : n ≤ 4294967295) (w : World) :
    Calls Tryd.prog 46 #[.int .i64 n] w fun e w' => e = .returned (.string (str (be n 4))) ∧ w.grownBy w' none := by
  have hcv : (convert 72 9 (.slice (some ⟨w.heap.size, 0, none⟩) 4 4)).run Tryd.prog (w.alloc (.cells #[Value.int .u8 ((n : Int) / 16777216), .int .u8 ((n : Int) / 65536 % 256), .int .u8 ((n : Int) / 256 % 256), .int .u8 ((n : Int) % 256)] 5)) = .ok (.string (str (be n 4))) (w.alloc (.cells #[Value.int .u8 ((n : Int) / 16777216), .int .u8 ((n : Int) / 65536 % 256), .int .u8 ((n : Int) / 256 % 256), .int .u8 ((n : Int) % 256)] 5)) := by
    have := row_string_w w _ (be n 4) (four_bytes n)
    rw [be_length, show (n : Int) / 16777216 % 256 = (n : Int) / 16777216 from by omega] at this
    exact this
  have c1 := shift_at n 24 24 16777216 rfl hn (by omega) (by decide) w
  have c2 := shift_at n 16 16 65536 rfl hn (by omega) (by decide) w
  have c3 := shift_at n 8 8 256 rfl hn (by omega) (by decide) w
  have H1 := Lib.hid c1
  have H2 := Lib.hid c2
  have H3 := Lib.hid c3
  clear c1 c2 c3
  go_enter Tryd.func46, Tryd.ntmps46
  go_wp2_with fail
  refine H1.out.mono ?_
  rintro e w' ⟨rfl, rfl⟩
  go_wp2_with fail
  refine H2.out.mono ?_
  rintro e w' ⟨rfl, rfl⟩
  go_wp2_with fail
  refine H3.out.mono ?_
  rintro e w' ⟨rfl, rfl⟩
  go_wp2_with fail
  go_ret
  exact ⟨rfl, World.grownBy_alloc _ _ _⟩
end Go.Proofs.YtgaenpbdfelhhaaDoor
