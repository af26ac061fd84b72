/- The walk of the document's Sum. -/
import Derived.Test.YtioahjdojgcfdaaDoorRosterLaysB8
import Derived.Test.YtioahjdojgcfdaaDoorShaCalls
import Derived.Deep.DeepCutAuto
import Derived.Deep.CutBlock
namespace Go.Proofs.YtioahjdojgcfdaaDoor
open Go.RowKit
set_option maxRecDepth 100000 in
set_option maxHeartbeats 4000000 in
theorem refSum_any (w : World) (s : ByteArray) (hs : s.size ≤ 1000000) :
    Calls Tryd.prog 50 #[.string s] w fun e w' => e = .returned (.string (str (shaL s.data.toList))) ∧ w.grownBy w' none := by
  go_enter Tryd.func50, Tryd.ntmps50
  go_wp2_with fail
  refine (roots_any _ 64 true 312 (by omega) (by omega) (by have := congrArg List.length roots64; simpa [rootsL] using this) (by rw [primes311]; decide)).mono ?_
  rintro e w1 ⟨vk, rfl, hk, hg1⟩
  rw [show rootsTo 312 true = rootsL from roots64] at hk
  obtain ⟨bk, capk, curk, rfl, hBk, -, hgk, hck⟩ := word_rows hk (by omega)
  clear hk
  have G1 := Lib.hid hg1
  have HK1 := Lib.hid hgk
  have HK := Lib.hid hck
  clear hg1 hgk hck
  go_wp2_with fail
  refine (roots_any _ 8 false 20 (by omega) (by omega) (by have := congrArg List.length roots8; simpa [start, St.list] using this) (by rw [primes19]; decide)).mono ?_
  rintro e w2 ⟨vh, rfl, hh, hg2⟩
  rw [show rootsTo 20 false = start.list from roots8] at hh
  obtain ⟨bh, caph, curh, rfl, hBh, hnc, hgh, hch⟩ := word_rows hh (by omega)
  clear hh
  have hkh : bk < w1.heap.size := (Array.getElem?_eq_some_iff.1 HK1.out).1
  have HK2 : Hid (∀ i, i < 64 → w2.cell? ⟨bk, i, none⟩ = some (.int .u64 (rootsL.getD i 0 : Nat))) := fun i hi => hg2.cell (HK.out i hi) (by simp)
  have HH := Lib.hid (And.intro hgh hch)
  have G2 := Lib.hid (grownBy_trans G1.out hg2)
  clear hg2 hgh hch HK HK1 G1
  have hp0 : Hid ((padTo s.data.toList 0).length = s.size + 1) := by show _ = _; simp [padTo]
  obtain ⟨K, hK⟩ : ∃ K, K = (119 - s.size % 64) % 64 := ⟨_, rfl⟩
  have HKK := Lib.hid hK
  have hK64 : K < 64 := by omega
  clear hK
  go_wp2_with fail
  go_loopg [0] K (fun g sv wr => ∃ k : Nat, ∃ t : ByteArray, k + g = K ∧ sv = .string t ∧ Hid (t.data.toList = padTo s.data.toList k) ∧ t.size = s.size + 1 + k ∧ w2 = wr)
  case atStart => exact ⟨0, _, by omega, rfl, by show _ = _; simp [padTo], by rw [ByteArray.size_append]; rfl, rfl⟩
  case round =>
    obtain ⟨k, t, hk, rfl, HT, hts, rfl⟩ := hrel
    obtain ⟨tb, htb, hti⟩ : ∃ tb : Bool, ((t.size : Int) % 64 != 56) = tb ∧ (tb = true ↔ t.size % 64 ≠ 56) := ⟨_, rfl, by rw [bne_iff_ne]; omega⟩
    have HTI := Lib.hid (And.intro hti hts)
    have htl : t.size ≤ 1000100 := by omega
    clear hti hts
    cases tb
    · have hKk : k = K := by
        have h1 := HTI.out
        have h2 := HKK.out
        simp only [Bool.false_eq_true, false_iff, Decidable.not_not] at h1
        omega
      subst hKk
      have HX := Lib.hid HTI.out.2
      clear HTI
      go_wp2_with fail
      go_loopw [0, 6] (fun sv iv wr => ∃ j : Nat, ∃ u : ByteArray, j ≤ 8 ∧ iv = .int .i64 (7 - (j : Int)) ∧ sv = .string u ∧ Hid (u.data.toList = padTo s.data.toList k ++ (be (8 * s.size) 8).take j) ∧ u.size = s.size + 1 + k + j ∧ Hid (w2.grownBy wr none)) (fun _ iv _ => (intOf iv + 1).toNat)
      case atStart => exact ⟨0, t, by omega, rfl, rfl, by show _ = _; rw [HT.out]; simp, HX.out, World.grownBy.refl _ _⟩
      case round =>
        obtain ⟨j, u, hj, rfl, rfl, HU, hus, HW⟩ := hrel
        by_cases hjl : j < 8
        · obtain ⟨i, hi⟩ : ∃ i, 7 - j = i := ⟨_, rfl⟩
          have hi2 : (7 : Int) - (j : Int) = (i : Int) := by omega
          have hi3 : i ≤ 7 := by omega
          rw [hi2]
          have HI := Lib.hid hi
          have HUS := Lib.hid hus
          have hul : u.size ≤ 1000200 := by omega
          clear hi hus hi2
          go_wp2_with fail
          rw [show (8 : Int) * (s.size : Int) = ((8 * s.size : Nat) : Int) from by simp, show (8 : Int) * (i : Int) = ((8 * i : Nat) : Int) from by simp]
          refine (shift_any (8 * s.size) (8 * i) (by omega) (by omega) _).mono ?_
          rintro e w3 ⟨rfl, rfl⟩
          have hby : (8 : Int) * (s.size : Int) / 2 ^ (8 * i) % 256 = ((UInt8.ofNat (8 * s.size / 256 ^ i % 256)).toNat : Int) := by
            have := byte_at (8 * s.size) i
            rw [← this]
            simp
          have hcv := one_string wr _ _ hby
          have HBY := Lib.hid hby
          clear hby
          obtain ⟨X, hX⟩ : ∃ X, str [UInt8.ofNat (8 * s.size / 256 ^ i % 256)] = X := ⟨_, rfl⟩
          have hX1 : X.size = 1 := by rw [← hX]; rfl
          rw [hX] at hcv
          have HX1 := Lib.hid hX
          clear hX
          have hq : (9223372036854775807 < u.size + X.size) = False := eq_false (by omega)
          go_wp2_with fail
          go_roundw
          case rel =>
            refine ⟨j + 1, _, by omega, ?_, rfl, ?_, ?_, ?_⟩
            · have := HI.out; exact val_int (by omega)
            · show _ = _
              rw [be_take _ 8 j hjl, show 8 - 1 - j = i from by have := HI.out; omega, ← List.append_assoc, ← HU.out, ← HX1.out]
              simp [str]
            · rw [ByteArray.size_append, HUS.out, hX1]; omega
            · exact grownBy_alloc' HW.out _
          case measure => simp [intOf] <;> omega
        · have hj8 : j = 8 := by omega
          subst hj8
          have hKp : k = (119 - s.size % 64) % 64 := HKK.out
          have hup : u.data.toList = pad s.data.toList := by
            rw [HU.out, List.take_of_length_le (by simp [be_length]), pad, padTo, show s.data.toList.length = s.size from by simp, ← hKp]
          have hul : u.size = 64 * ((s.size + 72) / 64) := by omega
          have HUP := Lib.hid (And.intro hup hul)
          have hul2 : u.size ≤ 1000200 := by omega
          clear hup hul hus HU hKp
          have hR : Hid (RW w wr bk bh start.list) := ⟨grownBy_trans G2.out HW.out, fun i hi => HW.out.cell (HK2.out i hi) (by simp), ⟨curh, by rw [HW.out.block bh (Array.getElem?_eq_some_iff.1 HH.out.1).1 (by simp)]; exact HH.out.1⟩, fun i hi => HW.out.cell (HH.out.2 i hi) (by simp)⟩
          have hBh : w.heap.size ≤ bh := Nat.le_trans (by have := hkh; omega) hBh
          clear HW HH HK2 G2
          rw [show (7 : Int) - ((8 : Nat) : Int) = -1 from by decide]
          go_wp2_with fail
          go_loopw [7] (fun av wr => ∃ b : Nat, b ≤ (s.size + 72) / 64 ∧ av = .int .i64 (64 * b : Nat) ∧ Hid (RW w wr bk bh (blocksTo start (pad s.data.toList) b).list)) (fun av _ => u.size - (intOf av).toNat)
          case atStart => exact ⟨0, by omega, rfl, by rw [blocksTo]; exact hR⟩
          case round =>
            clear hR
            obtain ⟨b, hb, rfl, HR⟩ := hrel
            by_cases hbl : b < (s.size + 72) / 64
            · have hb64 : 64 * b + 64 ≤ u.size := by have := HUP.out.2; omega
              obtain ⟨at', hat⟩ : ∃ a, 64 * b = a := ⟨_, rfl⟩
              rw [hat] at hb64 ⊢
              have HAT := Lib.hid hat
              clear hat
              have hdec : decide ((at' : Int) < (u.size : Int)) = true := by simp; omega
              have HBL : Hid ((pad s.data.toList).drop at' = (pad s.data.toList).drop (64 * b)) := by show _ = _; rw [HAT.out]
              obtain ⟨blk, hblk⟩ : ∃ blk, ((pad s.data.toList).drop at').take 64 = blk := ⟨_, rfl⟩
              have HBYT : Hid (∀ i (hi : i < 64), (u[at' + i]'(by omega)).toNat = (blk.getD i 0).toNat) := by
                intro i hi
                rw [← hblk]
                exact block_byte u _ at' i HUP.out.1 (by omega) hi
              have HBLK := Lib.hid hblk
              clear hblk
              obtain ⟨st, hst⟩ : ∃ st, blocksTo start (pad s.data.toList) b = st := ⟨_, rfl⟩
              rw [hst] at HR
              have HST := Lib.hid hst
              clear hst
              obtain ⟨i0, hi, hz0, hz1, hz2⟩ := info_parts infoU64
              go_wp2_with (at_make; refine wpList_make_full _ rfl _ _ 145 rfl wr.heap.size 32 i0 (.int .u64 0) 1 Tryd.underlying145 hi hz0 hz1 _ _ _ _ 64 rfl rfl rfl rfl ?c1 ?c2 ?c3 ?_)
              case c1 => rw [hz2]; omega
              case c2 => unfold maxLen; omega
              case c3 => omega
              intro wm hown hg
              rw [made_u64] at hown
              have hwm : wr.grownBy wm none := grownBy_below ((Below.refl _ _).grown hg (Nat.le_refl _) (by intro k h; cases h))
              have HB : Hid (BW w wm bk bh wr.heap.size st.list (wordsZ blk 0)) :=
                ⟨HR.out.kept hwm, row_of_own hown, HR.out.g.size, Nat.ne_of_lt (World.block_lt_of_cell? wr _ (HR.out.k 0 (by decide))), Nat.ne_of_lt (World.block_lt_of_cell? wr _ (HR.out.h 0 (by decide)))⟩
              clear hown hg hwm HR
              generalize wr.heap.size = A at HB ⊢
              clear wr
              go_wp2_with fail
              go_loopw [9] (fun i wr => ∃ k : Nat, k ≤ 16 ∧ i = .int .i64 k ∧ Hid (BW w wr bk bh A st.list (wordsZ blk k))) (fun i _ => 16 - (intOf i).toNat)
              case atStart => exact ⟨0, by omega, rfl, HB.out⟩
              case round =>
                clear HB
                obtain ⟨k, hk, rfl, HB⟩ := hrel
                by_cases hlt : k < 16
                · have hd : decide ((k : Int) < 16) = true := by simp; omega
                  go_wp2_with fail
                  go_loopw [10] (fun i wr => ∃ j : Nat, j ≤ 4 ∧ i = .int .i64 j ∧ Hid (BW w wr bk bh A st.list ((wordsZ blk k).set k (part blk k j)))) (fun i _ => 4 - (intOf i).toNat)
                  case atStart => exact ⟨0, by omega, rfl, by rw [wordsZ_start blk k (by omega)]; exact HB.out⟩
                  case round =>
                    clear HB
                    obtain ⟨j, hj, rfl, HB⟩ := hrel
                    by_cases hjl : j < 4
                    · refine round5 hlt hjl hb64 hul2 HBYT HB ?_
                      intro y_63 y_64 y_65 y_66 y_67 y_68 y_69 y_70 y_71 y_72 y_73 y_74 y_75 y_76 y_77 y_78 y_79 y_80 y_81 y_82 y_83 y_84 w2 g1
                      go_roundw
                      case rel => exact ⟨j + 1, by omega, by go_num, g1.out⟩
                      case measure => simp [intOf]; omega
                    · have : j = 4 := by omega
                      subst this
                      have HB1 : Hid (BW w wr bk bh A st.list (wordsZ blk (k + 1))) := by
                        rw [← wordsZ_end blk k (by omega)]
                        exact HB.out
                      go_wp2_with fail
                      go_roundw
                      case rel => exact ⟨k + 1, by omega, by go_num, HB1.out⟩
                      case measure => simp [intOf]; omega
                · have : k = 16 := by omega
                  subst this
                  rw [show ((16 : Nat) : Int) = 16 from rfl]
                  go_wp2_with fail
                  go_loopw [11] (fun i wr => ∃ m : Nat, 16 ≤ m ∧ m ≤ 64 ∧ i = .int .i64 m ∧ Hid (BW w wr bk bh A st.list (wordsM blk m))) (fun i _ => 64 - (intOf i).toNat)
                  case atStart => exact ⟨16, by omega, by omega, rfl, HB.out⟩
                  case round =>
                    clear HB
                    obtain ⟨m, hm1, hm2, rfl, HB⟩ := hrel
                    by_cases hlt : m < 64
                    · refine round6 hm1 hm2 hlt HB ?_
                      intro y_12 y_13 y_85 y_86 y_87 y_88 y_89 y_90 y_91 y_92 y_93 y_94 y_95 y_96 y_97 y_98 y_99 y_100 y_101 y_102 y_103 y_104 y_105 y_106 y_107 y_108 y_109 y_110 y_111 y_112 y_113 y_114 y_115 y_116 y_117 y_118 y_119 y_120 y_121 y_122 y_123 y_124 y_125 y_126 y_127 y_128 y_129 y_130 y_131 y_132 y_133 y_134 y_135 y_136 y_137 y_138 y_139 y_140 y_141 y_142 y_143 y_144 y_145 y_146 y_147 w2 g1
                      go_roundw
                      case rel => exact ⟨m + 1, by omega, by omega, by go_num, g1.out⟩
                      case measure => simp [intOf]; omega
                    · have : m = 64 := by omega
                      subst this
                      rw [wordsM_end] at HB
                      rw [show ((64 : Nat) : Int) = 64 from rfl]
                      have hown0 : (wr.alloc (.cells #[] 32)).ownsRow wr.heap.size 32 1 (.slice (some ⟨wr.heap.size, 0, none⟩) 0 0) 0 [] :=
                        ⟨rfl, .inr ⟨wr.heap.size, 0, #[], rfl, Nat.le_refl _, heap_alloc_at _ _ _ rfl, Nat.le_refl _, Nat.zero_le _, rfl, rfl⟩⟩
                      have hg0 : wr.grownBy (wr.alloc (.cells #[] 32)) none := World.grownBy_alloc _ _ _
                      have hh0 := HB.out.r.kept hg0
                      go_wp2_with (at_builtin; refine wpList_append_own _ rfl _ _ 145 rfl wr.heap.size 32 i0 (.int .u64 0) 1 8 Tryd.underlying145 hi hz0 hz1 hz2 rfl (by decide) _ _ _ rfl hown0 ⟨bh, 0, none⟩ 8 caph (u64s st.list) rfl rfl ?q1 ?q2 ?q3 ?q4 ?q5 ?_)
                      case q1 =>
                        intro j u hj
                        have hj8 : j < 8 := by
                          have := (List.getElem?_eq_some_iff.1 hj).1
                          simpa [u64s, St.list] using this
                        rw [u64s_at _ _ hj8] at hj
                        have := hh0.h j hj8
                        rw [hj] at this
                        rw [show (Addr.add ⟨bh, 0, none⟩ j) = ⟨bh, j, none⟩ from by cases j <;> simp [Addr.add]]
                        exact this
                      case q2 =>
                        intro u hu
                        obtain ⟨x, _, rfl⟩ := List.mem_map.1 hu
                        rfl
                      case q3 => unfold maxLen; omega
                      case q4 => omega
                      case q5 => simp
                      intro v' w3 hown3 hg3 _
                      have hw3 : wr.grownBy w3 none := grownBy_below ((below_grownBy hg0).grown hg3 (by simp) (fun k hk => (hown0.lt k hk).1))
                      obtain ⟨gv, capv, curv, rfl, hgv1, hcapv, -, hcv⟩ := word_rows hown3 (by omega)
                      have HB3 := Lib.hid (HB.out.kept hw3)
                      have hgv : bh ≠ gv := by
                        have h : bh < wr.heap.size := World.block_lt_of_cell? wr _ (HB.out.r.h 0 (by decide))
                        omega
                      have HV3 : Hid (∀ j, j < 8 → w3.cell? ⟨gv, j, none⟩ = some (.int .u64 (st.list.getD j 0 : Nat))) := hcv
                      clear hown3 hg3 hw3 hgv1 hcv hown0 hg0 hh0 HB
                      go_wp2_with fail
                      go_loopw [14, 15] (fun v14 iv wr => ∃ i : Nat, ∃ t : St, ∃ gv cap, i ≤ 64 ∧ Hid (roundsTo st rootsL (sched blk) i = t) ∧ v14 = .slice (some ⟨gv, 0, none⟩) 8 cap ∧ 8 ≤ cap ∧ bh ≠ gv ∧ iv = .int .i64 i ∧ Hid (BW w wr bk bh A st.list (sched blk)) ∧ Hid (∀ j, j < 8 → wr.cell? ⟨gv, j, none⟩ = some (.int .u64 (t.list.getD j 0 : Nat)))) (fun _ iv _ => 64 - (intOf iv).toNat)
                      case atStart => exact ⟨0, st, gv, capv, by omega, rfl, rfl, hcapv, hgv, rfl, HB3.out, HV3.out⟩
                      case round =>
                        clear HB3 HV3
                        obtain ⟨i, t, gw, capw, hi64, HT, rfl, hcapw, hgw, rfl, HB, HV⟩ := hrel
                        by_cases hlt : i < 64
                        · have stOk : st.ok := by rw [← HST.out]; exact blocks_ok _ _
                          have ht : t.ok := by rw [← HT.out]; exact roundsTo_ok stOk _ _ _
                          have HSTEP : Hid (roundsTo st rootsL (sched blk) (i + 1) = t.step (rootsL.getD i 0) ((sched blk).getD i 0)) := by
                            show _ = _
                            rw [roundsTo, HT.out]
                          refine round7 hlt ht HB HV hcapw ?_
                          intro gw2 capw2 y_16 y_17 y_18 y_19 y_20 y_151 y_152 y_153 y_154 y_155 y_156 y_157 y_158 y_159 y_160 y_161 y_162 y_163 y_164 y_165 y_166 y_167 y_168 y_169 y_170 y_171 y_172 y_173 y_174 y_175 y_176 y_177 y_178 y_179 y_180 y_181 y_182 y_183 y_184 y_185 y_186 y_187 y_188 y_189 y_190 y_191 y_192 y_193 y_194 y_195 y_196 y_197 y_198 y_199 y_200 y_201 y_202 y_203 y_204 y_205 y_206 y_207 y_208 y_209 y_210 y_211 y_212 y_213 y_214 y_215 y_216 y_217 y_218 y_219 y_220 y_221 y_222 y_223 y_224 y_225 y_226 y_227 y_228 y_229 y_230 y_231 y_232 y_233 y_234 y_235 y_236 y_237 y_238 y_239 y_240 y_241 y_242 y_243 y_244 y_245 y_246 y_247 y_248 y_249 y_250 y_251 y_252 y_253 y_254 y_255 y_256 y_257 y_258 y_259 y_260 y_261 y_262 y_263 y_264 y_265 y_266 y_267 y_268 y_269 y_270 y_271 w2 ⟨g1, g2, g3, g4⟩
                          go_roundw
                          case rel => exact ⟨i + 1, _, gw2, capw2, by omega, HSTEP.out, rfl, g1, g2, by go_num, g3.out, g4.out⟩
                          case measure => simp [intOf]; omega
                        · have : i = 64 := by omega
                          subst this
                          rw [show ((64 : Nat) : Int) = 64 from rfl]
                          have hL8 : ∀ (s t : St) (i : Nat), ((s.add t).list.take i ++ s.list.drop i).length = 8 := by
                            intro s t i
                            simp [St.list]
                            omega
                          --{
                          go_wp2_with fail
                          go_loopw [21] (fun iv wr => ∃ i : Nat, i ≤ 8 ∧ iv = .int .i64 i ∧ Hid (RW w wr bk bh ((st.add t).list.take i ++ st.list.drop i)) ∧ Hid (∀ j, j < 8 → wr.cell? ⟨gw, j, none⟩ = some (.int .u64 (t.list.getD j 0 : Nat)))) (fun iv _ => 8 - (intOf iv).toNat)
                          case atStart => exact ⟨0, by omega, rfl, (by have := HB.out.r; show RW _ _ _ _ _; simpa using this), HV.out⟩
                          case round =>
                            clear HB HV
                            obtain ⟨i, hi8, rfl, HR, HV⟩ := hrel
                            by_cases hlt : i < 8
                            · have stOk : st.ok := by rw [← HST.out]; exact blocks_ok _ _
                              have tOk : t.ok := by rw [← HT.out]; exact roundsTo_ok stOk _ _ _
                              refine round8 hlt stOk tOk hgw hBh (by omega) HR HV ?_
                              intro y_272 y_273 y_274 y_275 y_276 y_277 y_278 y_279 y_280 y_281 y_282 y_283 y_284 y_285 y_286 y_287 y_288 w2 ⟨g1, g2⟩
                              go_roundw
                              case rel => exact ⟨i + 1, by omega, by go_num, g1.out, g2.out⟩
                              case measure => simp [intOf]; omega
                            · have : i = 8 := by omega
                              subst this
                              have hm : blocksTo start (pad s.data.toList) (b + 1) = st.add t := by
                                rw [blocksTo, HST.out, St.mix, ← HBL.out, HBLK.out, HT.out]
                              have HR2 : Hid (RW w wr bk bh (blocksTo start (pad s.data.toList) (b + 1)).list) := by
                                have := HR.out
                                rw [List.take_of_length_le (by simp [St.list]), List.drop_of_length_le (by simp [St.list]), List.append_nil] at this
                                rw [hm]
                                exact this
                              clear HR hm
                              go_wp2_with fail
                              go_roundw
                              case rel =>
                                refine ⟨b + 1, by omega, ?_, HR2.out⟩
                                have := HAT.out
                                exact val_int (by omega)
                              case measure => simp [intOf]; omega
                          --}
            · have hbe : b = (s.size + 72) / 64 := by omega
              subst hbe
              have hend : shaL s.data.toList = (blocksTo start (pad s.data.toList) ((s.size + 72) / 64)).bytes := by
                rw [shaL, show s.data.toList.length = s.size from by simp]
              obtain ⟨st, hst⟩ : ∃ st, blocksTo start (pad s.data.toList) ((s.size + 72) / 64) = st := ⟨_, rfl⟩
              have stOk : st.ok := by rw [← hst]; exact blocks_ok _ _
              rw [hst] at HR hend
              have HE := Lib.hid hend
              have hat : 64 * ((s.size + 72) / 64) = u.size := HUP.out.2.symm
              rw [hat]
              clear hst hend hat
              go_wp2_with fail
              go_loopw [22, 23] (fun ov iv wr => ∃ i : Nat, ∃ o : ByteArray, i ≤ 8 ∧ iv = .int .i64 i ∧ ov = .string o ∧ Hid (o.data.toList = outTo st.list i) ∧ o.size = 4 * i ∧ Hid (RW w wr bk bh st.list)) (fun _ iv _ => 8 - (intOf iv).toNat)
              case atStart => exact ⟨0, _, by omega, rfl, rfl, rfl, rfl, HR.out⟩
              case round =>
                clear HR
                obtain ⟨i, o, hi, rfl, rfl, HO, hos, HR⟩ := hrel
                by_cases hlt : i < 8
                · have hd : decide ((i : Int) < 8) = true := by simp; omega
                  have HOS := Lib.hid hos
                  clear hos
                  go_wp2_with fail
                  go_loopw [22, 24] (fun ov jv wr => ∃ j : Nat, ∃ o : ByteArray, j ≤ 4 ∧ jv = .int .i64 (3 - (j : Int)) ∧ ov = .string o ∧ Hid (o.data.toList = outTo st.list i ++ (be (st.list.getD i 0) 4).take j) ∧ o.size = 4 * i + j ∧ Hid (RW w wr bk bh st.list)) (fun _ jv _ => (intOf jv + 1).toNat)
                  case atStart => exact ⟨0, o, by omega, rfl, rfl, by show _ = _; rw [HO.out]; simp, HOS.out, HR.out⟩
                  case round =>
                    clear HR HO HOS
                    obtain ⟨j, o, hj, rfl, rfl, HO, hos, HR⟩ := hrel
                    have hos2 : o.size ≤ 100 := by omega
                    have HOS := Lib.hid hos
                    clear hos
                    by_cases hjl : j < 4
                    · obtain ⟨q, hq⟩ : ∃ q, 3 - j = q := ⟨_, rfl⟩
                      have hq2 : (3 : Int) - (j : Int) = (q : Int) := by omega
                      have hq3 : q ≤ 3 := by omega
                      rw [hq2]
                      have HQ := Lib.hid hq
                      clear hq hq2
                      have c1 := HR.out.h i hlt
                      have l1 := getD_lt (list_ok' stOk) (by decide) i
                      obtain ⟨x, hx⟩ : ∃ x, st.list.getD i 0 = x := ⟨_, rfl⟩
                      rw [hx] at c1 l1
                      have HX := Lib.hid hx
                      clear hx
                      have b1 : (0 : Int) ≤ (i : Int) := by omega
                      have b2 : (i : Int) < 8 := by omega
                      go_wp2_with fail
                      rw [show (8 : Int) * (q : Int) = ((8 * q : Nat) : Int) from by simp]
                      refine (shift_any x (8 * q) (by omega) (by omega) _).mono ?_
                      rintro e w3 ⟨rfl, rfl⟩
                      have hby : (x : Int) / 2 ^ (8 * q) % 256 = ((UInt8.ofNat (x / 256 ^ q % 256)).toNat : Int) := by
                        have := byte_at x q
                        rw [← this]
                      have hcv := one_string wr _ _ hby
                      have HBY := Lib.hid hby
                      clear hby
                      obtain ⟨X, hX⟩ : ∃ X, str [UInt8.ofNat (x / 256 ^ q % 256)] = X := ⟨_, rfl⟩
                      have hX1 : X.size = 1 := by rw [← hX]; rfl
                      rw [hX] at hcv
                      have HX1 := Lib.hid hX
                      clear hX
                      have hqq : (9223372036854775807 < o.size + X.size) = False := eq_false (by omega)
                      go_wp2_with fail
                      go_roundw
                      case rel =>
                        refine ⟨j + 1, _, by omega, ?_, rfl, ?_, ?_, HR.out.kept (World.grownBy_alloc _ _ _)⟩
                        · have := HQ.out; exact val_int (by omega)
                        · show _ = _
                          rw [HX.out, be_take _ 4 j hjl, show 4 - 1 - j = q from by have := HQ.out; omega, ← List.append_assoc]
                          have := HO.out
                          rw [HX.out] at this
                          rw [← this, ← HX1.out]
                          simp [str]
                        · rw [ByteArray.size_append, HOS.out, hX1]; omega
                      case measure => simp [intOf] <;> omega
                    · have hj4 : j = 4 := by omega
                      subst hj4
                      have HO1 : Hid (o.data.toList = outTo st.list (i + 1)) := by
                        show _ = _
                        rw [HO.out, outTo_succ st i hlt, List.take_of_length_le (by simp [be_length])]
                      rw [show (3 : Int) - ((4 : Nat) : Int) = -1 from by decide]
                      go_wp2_with fail
                      go_roundw
                      case rel => exact ⟨i + 1, o, by omega, by go_num, rfl, HO1.out, (by have := HOS.out; omega), HR.out⟩
                      case measure => simp [intOf]; omega
                · have hi8 : i = 8 := by omega
                  subst hi8
                  rw [show ((8 : Nat) : Int) = 8 from rfl]
                  go_wp2_with fail
                  go_ret
                  refine ⟨?_, HR.out.g⟩
                  rw [HE.out]
                  have : o = str st.bytes := by
                    apply ByteArray.ext
                    apply Array.toList_inj.1
                    rw [HO.out]
                    rfl
                  rw [this]
                  rfl
    · go_wp2_with fail
      have hq : (9223372036854775807 < t.size + 1) = False := eq_false (by omega)
      have h1 : ({ data := #[0] } : ByteArray).size = 1 := rfl
      go_roundg (K - (k + 1))
      case rel =>
        have h2 := HTI.out
        have h3 := HKK.out
        simp only [true_iff] at h2
        refine ⟨k + 1, _, by omega, rfl, ?_, ?_, rfl⟩
        · show _ = _
          rw [ByteArray.toList_data_append, HT.out]
          simp [padTo, List.replicate_succ']
        · rw [ByteArray.size_append, h2.2]; rfl
      case measure =>
        have h2 := HTI.out
        have h3 := HKK.out
        simp only [true_iff] at h2
        omega
end Go.Proofs.YtioahjdojgcfdaaDoor
