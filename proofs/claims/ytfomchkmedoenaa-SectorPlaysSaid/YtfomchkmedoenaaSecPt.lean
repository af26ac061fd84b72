/- SectorPlays: the region of its two appends. -/
import Derived.Test.YtfomchkmedoenaaSecPr
import Derived.Deep.RegionHeld3
import Derived.Deep.AppendLies
namespace Go.Proofs.Ytfomchkmedoenaa
open Go.RowKit

/-- the regions of a piece of code -/
def regionsIn : Code → List Code
  | .region id ops b => [.region id ops b]
  | .loop c => regionsIn c
  | .seq a b => regionsIn a ++ regionsIn b
  | .block _ c => regionsIn c
  | .scope c => regionsIn c
  | .cond _ a b => regionsIn a ++ regionsIn b
  | _ => []
def regionId : Code → Nat
  | .region id _ _ => id
  | _ => 0
/-- a function's region of a number -/
noncomputable def regionOf (f : Func) (n : Nat) : Code := (((f.body.map regionsIn).getD []).find? fun c => regionId c == n).getD .skip
set_option maxRecDepth 100000 in
set_option maxHeartbeats 8000000 in
theorem push_region {Q : Exit → Act → World → Prop} {V6 : World} {nz AB TB XB j an2 ac2 tc2 : Nat} {aa2 ta2 : Option Addr} {t TT : ByteArray} {W0 : List (Nat × List UInt8)} {x_0 x_1 x_2 x_3 x_4 x_5 x_6 x_7 x_10 x_11 x_12 x_13 x_14 x_17 x_18 x_19 x_20 x_21 x_22 x_23 x_24 x_25 x_26 x_27 x_28 x_29 x_30 x_31 x_32 x_33 x_34 x_35 x_36 x_37 x_38 x_39 x_40 x_41 x_42 x_43 x_44 x_45 x_46 x_47 x_48 x_49 x_50 x_51 x_52 x_53 x_54 x_55 x_56 x_57 x_58 x_59 x_60 x_61 x_62 x_63 x_64 x_65 x_66 x_67 x_68 x_69 x_70 x_71 x_72 x_73 x_74 x_75 x_76 x_77 x_78 x_79 x_80 x_81 x_82 x_83 x_84 x_85 x_86 x_87 x_88 x_89 x_90 x_91 x_92 x_93 x_94 x_95 x_96 x_97 x_98 x_99 x_100 x_101 x_102 x_103 x_104 x_105 x_106 x_107 x_108 x_109 x_110 x_111 x_112 x_113 x_114 x_115 x_116 x_117 x_118 x_119 x_120 x_121 x_122 x_123 x_124 x_125 x_126 x_127 x_128 x_129 x_130 x_131 x_132 x_133 x_134 x_135 x_136 x_137 x_138 x_139 x_140 x_141 x_142 x_143 x_144 x_145 x_146 x_147 x_148 x_149 x_150 x_151 x_152 x_153 x_154 x_155 x_156 x_157 x_158 x_159 x_160 x_161 x_162 x_163 x_164 x_165 x_166 x_167 x_168 x_169 x_170 x_171 x_172 x_173 x_174 x_175 x_176 x_177 x_178 x_179 x_180 x_181 x_182 x_183 x_184 x_185 x_186 x_187 x_188 x_189 x_190 x_191 x_192 x_193 x_194 x_195 x_196 x_197 x_198 x_199 x_200 x_201 x_202 x_203 x_204 x_205 x_206 x_207 x_208 x_209 x_210 x_211 x_212 x_213 x_214 x_215 x_216 x_217 x_218 x_219 : Value}
    (HFF : Hid (∀ w : World, Calls Try.prog 6 #[.string t] w fun e w' => e = .returned (.string TT) ∧ w = w'))
    (ra0 : V6.drew.ownsRow nz 3 1 (.slice aa2 an2 ac2) an2 (atV W0)) (rt0 : V6.drew.ownsRow nz 9 1 (.slice ta2 an2 tc2) an2 (txV W0))
    (t0w : Turn (rowsT (.slice aa2 an2 ac2) (.slice ta2 an2 tc2)) V6 V6.drew)
    (HOW : Hid ((∀ g, (Value.slice aa2 an2 ac2).ownBlock = some g → g < V6.heap.size) ∧ (∀ g, (Value.slice ta2 an2 tc2).ownBlock = some g → g < V6.heap.size) ∧ ∀ g, (Value.slice aa2 an2 ac2).ownBlock = some g → (Value.slice ta2 an2 tc2).ownBlock ≠ some g))
    (HLN : Hid (an2 + 1 ≤ maxLen ∧ (an2 + 1) * 8 ≤ 140737488355328 ∧ (an2 + 1) * 16 ≤ 140737488355328 ∧ nz ≤ V6.heap.size))
    (HCK : Hid (∀ u, Turn (rowsT (.slice aa2 an2 ac2) (.slice ta2 an2 tc2)) V6 u → u.cell? ⟨AB, 0, none⟩ = some (.slice aa2 an2 ac2) ∧ u.cell? ⟨TB, 0, none⟩ = some (.slice ta2 an2 tc2) ∧ u.cell? ⟨XB, 1, none⟩ = some (.int .i64 (j : Nat))))
    (HBX : Hid (∀ u, Turn (rowsT (.slice aa2 an2 ac2) (.slice ta2 an2 tc2)) V6 u → u.cell? ⟨AB, 0, none⟩ = some (.slice aa2 an2 ac2) ∧ u.frozen? ⟨AB, 0, none⟩ = false ∧ True))
    (HBY : Hid (∀ u, Turn (rowsT (.slice aa2 an2 ac2) (.slice ta2 an2 tc2)) V6 u → ∀ x, (u.setCell ⟨AB, 0, none⟩ x).cell? ⟨TB, 0, none⟩ = some (.slice ta2 an2 tc2) ∧ (u.setCell ⟨AB, 0, none⟩ x).frozen? ⟨TB, 0, none⟩ = false))
    (HEND : Hid (∀ (y_104 y_105 y_106 y_107 y_108 y_109 y_110 y_111 y_112 y_113 : Value) (g1 c1 g2 c2 : Nat) (w8 : World), w8.ownsRow nz 3 1 (.slice (some ⟨g1, 0, none⟩) (an2 + 1) c1) (an2 + 1) (atV W0 ++ [.int .i64 (j : Nat)]) → w8.ownsRow nz 9 1 (.slice (some ⟨g2, 0, none⟩) (an2 + 1) c2) (an2 + 1) (txV W0 ++ [.string TT]) → Turn (rowsT (.slice aa2 an2 ac2) (.slice ta2 an2 tc2)) V6 w8 →
      ((Value.slice aa2 an2 ac2).ownBlock = some g1 ∨ V6.heap.size ≤ g1) → ((Value.slice ta2 an2 tc2).ownBlock = some g2 ∨ V6.heap.size ≤ g2) → g1 ≠ g2 →
      Q .normal ⟨List.toArray (x_0 :: x_1 :: x_2 :: x_3 :: x_4 :: x_5 :: x_6 :: x_7 :: .pointer (some ⟨AB, 0, none⟩) :: .pointer (some ⟨TB, 0, none⟩) :: x_10 :: x_11 :: x_12 :: x_13 :: x_14 :: .pointer (some ⟨XB, 0, none⟩) :: .string t :: x_17 :: x_18 :: x_19 :: x_20 :: x_21 :: x_22 :: x_23 :: x_24 :: x_25 :: x_26 :: x_27 :: x_28 :: x_29 :: x_30 :: x_31 :: x_32 :: x_33 :: x_34 :: x_35 :: x_36 :: x_37 :: x_38 :: x_39 :: x_40 :: x_41 :: x_42 :: x_43 :: x_44 :: x_45 :: x_46 :: x_47 :: x_48 :: x_49 :: x_50 :: x_51 :: x_52 :: x_53 :: x_54 :: x_55 :: x_56 :: x_57 :: x_58 :: x_59 :: x_60 :: x_61 :: x_62 :: x_63 :: x_64 :: x_65 :: x_66 :: x_67 :: x_68 :: x_69 :: x_70 :: x_71 :: x_72 :: x_73 :: x_74 :: x_75 :: x_76 :: x_77 :: x_78 :: x_79 :: x_80 :: x_81 :: x_82 :: x_83 :: x_84 :: x_85 :: x_86 :: x_87 :: x_88 :: x_89 :: x_90 :: x_91 :: x_92 :: x_93 :: x_94 :: x_95 :: x_96 :: x_97 :: x_98 :: x_99 :: x_100 :: x_101 :: x_102 :: x_103 :: y_104 :: y_105 :: y_106 :: y_107 :: y_108 :: y_109 :: y_110 :: y_111 :: y_112 :: y_113 :: x_114 :: x_115 :: x_116 :: x_117 :: x_118 :: x_119 :: x_120 :: x_121 :: x_122 :: x_123 :: x_124 :: x_125 :: x_126 :: x_127 :: x_128 :: x_129 :: x_130 :: x_131 :: x_132 :: x_133 :: x_134 :: x_135 :: x_136 :: x_137 :: x_138 :: x_139 :: x_140 :: x_141 :: x_142 :: x_143 :: x_144 :: x_145 :: x_146 :: x_147 :: x_148 :: x_149 :: x_150 :: x_151 :: x_152 :: x_153 :: x_154 :: x_155 :: x_156 :: x_157 :: x_158 :: x_159 :: x_160 :: x_161 :: x_162 :: x_163 :: x_164 :: x_165 :: x_166 :: x_167 :: x_168 :: x_169 :: x_170 :: x_171 :: x_172 :: x_173 :: x_174 :: x_175 :: x_176 :: x_177 :: x_178 :: x_179 :: x_180 :: x_181 :: x_182 :: x_183 :: x_184 :: x_185 :: x_186 :: x_187 :: x_188 :: x_189 :: x_190 :: x_191 :: x_192 :: x_193 :: x_194 :: x_195 :: x_196 :: x_197 :: x_198 :: x_199 :: x_200 :: x_201 :: x_202 :: x_203 :: x_204 :: x_205 :: x_206 :: x_207 :: x_208 :: x_209 :: x_210 :: x_211 :: x_212 :: x_213 :: x_214 :: x_215 :: x_216 :: x_217 :: x_218 :: x_219 :: []), []⟩ ((w8.setCell ⟨AB, 0, none⟩ (.slice (some ⟨g1, 0, none⟩) (an2 + 1 : Nat) c1)).setCell ⟨TB, 0, none⟩ (.slice (some ⟨g2, 0, none⟩) (an2 + 1 : Nat) c2)))) :
    Code.wp Try.prog (regionOf Try.f3 37) Q ⟨List.toArray (x_0 :: x_1 :: x_2 :: x_3 :: x_4 :: x_5 :: x_6 :: x_7 :: .pointer (some ⟨AB, 0, none⟩) :: .pointer (some ⟨TB, 0, none⟩) :: x_10 :: x_11 :: x_12 :: x_13 :: x_14 :: .pointer (some ⟨XB, 0, none⟩) :: .string t :: x_17 :: x_18 :: x_19 :: x_20 :: x_21 :: x_22 :: x_23 :: x_24 :: x_25 :: x_26 :: x_27 :: x_28 :: x_29 :: x_30 :: x_31 :: x_32 :: x_33 :: x_34 :: x_35 :: x_36 :: x_37 :: x_38 :: x_39 :: x_40 :: x_41 :: x_42 :: x_43 :: x_44 :: x_45 :: x_46 :: x_47 :: x_48 :: x_49 :: x_50 :: x_51 :: x_52 :: x_53 :: x_54 :: x_55 :: x_56 :: x_57 :: x_58 :: x_59 :: x_60 :: x_61 :: x_62 :: x_63 :: x_64 :: x_65 :: x_66 :: x_67 :: x_68 :: x_69 :: x_70 :: x_71 :: x_72 :: x_73 :: x_74 :: x_75 :: x_76 :: x_77 :: x_78 :: x_79 :: x_80 :: x_81 :: x_82 :: x_83 :: x_84 :: x_85 :: x_86 :: x_87 :: x_88 :: x_89 :: x_90 :: x_91 :: x_92 :: x_93 :: x_94 :: x_95 :: x_96 :: x_97 :: x_98 :: x_99 :: x_100 :: x_101 :: x_102 :: x_103 :: x_104 :: x_105 :: x_106 :: x_107 :: x_108 :: x_109 :: x_110 :: x_111 :: x_112 :: x_113 :: x_114 :: x_115 :: x_116 :: x_117 :: x_118 :: x_119 :: x_120 :: x_121 :: x_122 :: x_123 :: x_124 :: x_125 :: x_126 :: x_127 :: x_128 :: x_129 :: x_130 :: x_131 :: x_132 :: x_133 :: x_134 :: x_135 :: x_136 :: x_137 :: x_138 :: x_139 :: x_140 :: x_141 :: x_142 :: x_143 :: x_144 :: x_145 :: x_146 :: x_147 :: x_148 :: x_149 :: x_150 :: x_151 :: x_152 :: x_153 :: x_154 :: x_155 :: x_156 :: x_157 :: x_158 :: x_159 :: x_160 :: x_161 :: x_162 :: x_163 :: x_164 :: x_165 :: x_166 :: x_167 :: x_168 :: x_169 :: x_170 :: x_171 :: x_172 :: x_173 :: x_174 :: x_175 :: x_176 :: x_177 :: x_178 :: x_179 :: x_180 :: x_181 :: x_182 :: x_183 :: x_184 :: x_185 :: x_186 :: x_187 :: x_188 :: x_189 :: x_190 :: x_191 :: x_192 :: x_193 :: x_194 :: x_195 :: x_196 :: x_197 :: x_198 :: x_199 :: x_200 :: x_201 :: x_202 :: x_203 :: x_204 :: x_205 :: x_206 :: x_207 :: x_208 :: x_209 :: x_210 :: x_211 :: x_212 :: x_213 :: x_214 :: x_215 :: x_216 :: x_217 :: x_218 :: x_219 :: []), []⟩ V6 := by
  conv => arg 2; whnf
  refine wp_region_noPanic ?_
  have oneI : ∀ u ∈ [Value.int .i64 (j : Nat)], u.oneCell' = true := by intro u hu; rw [List.mem_singleton.1 hu]; rfl
  have oneS : ∀ u ∈ [Value.string TT], u.oneCell' = true := by intro u hu; rw [List.mem_singleton.1 hu]; rfl
  obtain ⟨i0, hti, hz0, hz1, hz2⟩ := info_parts infoIntP
  obtain ⟨i1, kti, kz0, kz1, kz2⟩ := info_parts infoStrP
  refine region_T (S := (fun w' => w'.cell? ⟨AB, 0, none⟩ = some (.slice aa2 an2 ac2) ∧ w'.cell? ⟨TB, 0, none⟩ = some (.slice ta2 an2 tc2) ∧ w'.cell? ⟨XB, 1, none⟩ = some (.int .i64 (j : Nat)))) (T := [10, 11]) (by kernel_rfl) ?hswr (fun hHeld => ?rgwr)
  case hswr => exact HCK.out _ t0w
  case rgwr =>
    refine AnyT.take (i := 0) (v := ?vwr_0) rfl (by kernel_rfl) (by kernel_rfl) (by kernel_rfl) (by kernel_rfl) (by kernel_rfl) (fun _ _ _ h => h) (Or.inl ⟨by kernel_rfl, ?hwr_0⟩) (by assumption) ?rwr_0
    case hwr_0 => (intro w0 hSw; (try dsimp only at hSw); go_simp; (try with_reducible rfl))
    try simp only [Act.put, List.setIfInBounds_toArray, List.set_cons_zero, List.set_cons_succ]
    refine AnyT.take (i := 1) (v := ?vwr_1) rfl (by kernel_rfl) (by kernel_rfl) (by kernel_rfl) (by kernel_rfl) (by kernel_rfl) (fun _ _ _ h => h) (Or.inl ⟨by kernel_rfl, ?hwr_1⟩) (by assumption) ?rwr_1
    case hwr_1 => (intro w0 hSw; (try dsimp only at hSw); go_simp; (try with_reducible rfl))
    try simp only [Act.put, List.setIfInBounds_toArray, List.set_cons_zero, List.set_cons_succ]
    refine AnyT.take (i := 2) (v := ?vwr_2) rfl (by kernel_rfl) (by kernel_rfl) (by kernel_rfl) (by kernel_rfl) (by kernel_rfl) (fun _ _ _ h => h) (Or.inl ⟨by kernel_rfl, ?hwr_2⟩) (by assumption) ?rwr_2
    case hwr_2 => (intro w0 hSw; (try dsimp only at hSw); go_simp; (try with_reducible rfl))
    try simp only [Act.put, List.setIfInBounds_toArray, List.set_cons_zero, List.set_cons_succ]
    refine AnyT.take (i := 5) (v := ?vwr_3) rfl (by kernel_rfl) (by kernel_rfl) (by kernel_rfl) (by kernel_rfl) (by kernel_rfl) (fun _ _ _ h => h) (Or.inl ⟨by kernel_rfl, ?hwr_3⟩) (by assumption) ?rwr_3
    case hwr_3 => (intro w0 hSw; (try dsimp only at hSw); go_simp; (try with_reducible rfl))
    try simp only [Act.put, List.setIfInBounds_toArray, List.set_cons_zero, List.set_cons_succ]
    refine AnyT.take (i := 6) (v := ?vwr_4) rfl (by kernel_rfl) (by kernel_rfl) (by kernel_rfl) (by kernel_rfl) (by kernel_rfl) (fun _ _ _ h => h) (Or.inl ⟨by kernel_rfl, ?hwr_4⟩) (by assumption) ?rwr_4
    case hwr_4 => (intro w0 hSw; (try dsimp only at hSw); go_simp; (try with_reducible rfl))
    try simp only [Act.put, List.setIfInBounds_toArray, List.set_cons_zero, List.set_cons_succ]
    refine AnyT.ready (rs := [3]) (by kernel_rfl) (by simp) ?_
    refine AllT.cons rfl (fun K hK => ?awr_6) ?bwr_6
    case awr_6 =>
      (have t1 := rows_alloc t0w (.cells #[.int .i64 (j : Nat)] 3); have ba1 := heap_alloc_at V6.drew (.cells #[.int .i64 (j : Nat)] 3) (V6.drew.heap.size) rfl; have ra1 := World.ownsRow.alloc ra0 (.cells #[.int .i64 (j : Nat)] 3); have rt1 := World.ownsRow.alloc rt0 (.cells #[.int .i64 (j : Nat)] 3); have na1 : V6.heap.size ≤ V6.drew.heap.size := t0w.size; have ck := HCK.out _ t1; go_simp)
      refine hK.out _ _ ?swr_6 (fun hHeld => ?twr_6)
      case swr_6 => exact ck
      case twr_6 =>
        clear hK K
        try simp only [Act.put, List.setIfInBounds_toArray, List.set_cons_zero, List.set_cons_succ]
        refine AnyT.ready (rs := [4]) (by kernel_rfl) (by simp) ?_
        refine AllT.cons rfl (fun K hK => ?awr_7) ?bwr_7
        case awr_7 =>
          (refine step_append_lies _ rfl (.tmp 104) (.tmp 107) 30 rfl nz 3 i0 (.int .i64 0) 1 8 Try.underlying30 hti hz0 hz1 hz2 rfl (by decide) (.slice aa2 an2 ac2) an2 (atV W0) rfl ra1 ⟨V6.drew.heap.size, 0, none⟩ 1 1 [.int .i64 (j : Nat)] rfl rfl (World.news_of_block ba1) oneI Nat.zero_lt_one HLN.out.1 HLN.out.2.1 (Nat.le_trans HLN.out.2.2.2 t1.size) _ rfl ?_; intro g2 c2 w2 ho2 hg2 hor2 hlt2; have t2 := rows_a (tv := .slice ta2 an2 tc2) t1 hg2; have rt2 := own_far rt1 hg2 (fun x e q => HOW.out.2.2 x q e); have aor2 : (Value.slice aa2 an2 ac2).ownBlock = some g2 ∨ V6.heap.size ≤ g2 := hor2.imp id (fun q => Nat.le_trans t1.size (Nat.le_of_eq q.symm)); have ck := HCK.out _ t2)
          refine hK.out _ _ ?swr_7 (fun hHeld => ?twr_7)
          case swr_7 => exact ck
          case twr_7 =>
            clear hK K
            try simp only [Act.put, List.setIfInBounds_toArray, List.set_cons_zero, List.set_cons_succ]
            refine AnyT.ready (rs := [7]) (by kernel_rfl) (by simp) ?_
            refine AllT.cons rfl (fun K hK => ?awr_8) ?bwr_8
            case awr_8 =>
              (go_simp; go_at_call 6; (with_reducible refine (HFF.out _).mono ?_); rintro e w3 ⟨rfl, hw3⟩; subst hw3; have ck := HCK.out _ t2)
              refine hK.out _ _ ?swr_8 (fun hHeld => ?twr_8)
              case swr_8 => exact ck
              case twr_8 =>
                clear hK K
                try simp only [Act.put, List.setIfInBounds_toArray, List.set_cons_zero, List.set_cons_succ]
                refine AnyT.ready (rs := [8]) (by kernel_rfl) (by simp) ?_
                refine AllT.cons rfl (fun K hK => ?awr_9) ?bwr_9
                case awr_9 =>
                  (have t4 := rows_alloc t2 (.cells #[.string TT] 9); have bt4 := heap_alloc_at w2 (.cells #[.string TT] 9) (w2.heap.size) rfl; have ra4 := World.ownsRow.alloc ho2 (.cells #[.string TT] 9); have rt4 := World.ownsRow.alloc rt2 (.cells #[.string TT] 9); have nt4 : V6.heap.size ≤ w2.heap.size := t2.size; have ck := HCK.out _ t4; go_simp)
                  refine hK.out _ _ ?swr_9 (fun hHeld => ?twr_9)
                  case swr_9 => exact ck
                  case twr_9 =>
                    clear hK K
                    try simp only [Act.put, List.setIfInBounds_toArray, List.set_cons_zero, List.set_cons_succ]
                    refine AnyT.ready (rs := [9]) (by kernel_rfl) (by simp) ?_
                    refine AllT.cons rfl (fun K hK => ?awr_10) ?bwr_10
                    case awr_10 =>
                      (refine step_append_lies _ rfl (.tmp 109) (.tmp 112) 31 rfl nz 9 i1 (.string ⟨#[]⟩) 1 16 Try.underlying31 kti kz0 kz1 kz2 rfl (by decide) (.slice ta2 an2 tc2) an2 (txV W0) rfl rt4 ⟨w2.heap.size, 0, none⟩ 1 1 [.string TT] rfl rfl (World.news_of_block bt4) oneS Nat.zero_lt_one HLN.out.1 HLN.out.2.2.1 (Nat.le_trans HLN.out.2.2.2 t4.size) _ rfl ?_; intro g5 c5 w5 ho5 hg5 hor5 hlt5; have t5 := rows_t (av := .slice aa2 an2 ac2) t4 hg5; have ra5 := own_far2 ra4 hg5 (no_row (flip_at HOW.out.2.2) HOW.out.2.1 aor2); have tor5 : (Value.slice ta2 an2 tc2).ownBlock = some g5 ∨ V6.heap.size ≤ g5 := hor5.imp id (fun q => Nat.le_trans t4.size (Nat.le_of_eq q.symm)); have apt5 := (new_apart (flip_at HOW.out.2.2) HOW.out.2.1 hor5 (ra4.lt _ rfl).2 aor2).symm; have ck := HCK.out _ t5)
                      refine hK.out _ _ ?swr_10 (fun hHeld => ?twr_10)
                      case swr_10 => exact ck
                      case twr_10 =>
                        clear hK K
                        try simp only [Act.put, List.setIfInBounds_toArray, List.set_cons_zero, List.set_cons_succ]
                        refine AnyT.ready (rs := [10]) (by kernel_rfl) (by simp) ?_
                        refine AllT.consT rfl (by simp) (fun K hK => ?awr_11) ?bwr_11
                        case awr_11 =>
                          (have hc10 := HBX.out _ t5; have ca := hc10.1; have fa := hc10.2.1; go_simp)
                          refine hK.out _ _ ?_
                          clear hK K
                          try simp only [Act.put, List.setIfInBounds_toArray, List.set_cons_zero, List.set_cons_succ]
                          refine AnyT.ready (rs := [11]) (by kernel_rfl) (by simp) ?_
                          refine AllT.consT rfl (by simp) (fun K hK => ?awr_12) ?bwr_12
                          case awr_12 =>
                            (have hd10 := HBY.out _ t5 (.slice (some ⟨g2, 0, none⟩) (an2 + 1 : Nat) c2); have cb := hd10.1; have fb := hd10.2; go_simp)
                            refine hK.out _ _ ?_
                            clear hK K
                            try simp only [Act.put, List.setIfInBounds_toArray, List.set_cons_zero, List.set_cons_succ]
                            refine AnyT.done (by kernel_rfl) ?_ _
                            try dsimp only
                            (exact HEND.out _ _ _ _ _ _ _ _ _ _ _ _ _ _ _ ra5 ho5 t5 aor2 tor5 apt5)
                          case bwr_12 =>
                            exact AllT.nil
                        case bwr_11 =>
                          exact AllT.nil
                    case bwr_10 =>
                      exact AllT.nil
                case bwr_9 =>
                  exact AllT.nil
            case bwr_8 =>
              exact AllT.nil
        case bwr_7 =>
          exact AllT.nil
    case bwr_6 =>
      exact AllT.nil
end Go.Proofs.Ytfomchkmedoenaa
