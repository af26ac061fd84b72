/- The walk of strings.Builder's WriteByte, at a builder at the head of a block of the call's own. -/
import Derived.Test.YtemgeelgkokpcaaDoorBld
namespace Go.Proofs.YtemgeelgkokpcaaDoor
open Go.RowKit

set_option maxRecDepth 100000 in
set_option maxHeartbeats 800000 in
theorem writeByte_inB (T : TypeId) (rest : List Value) (hT : Houses T rest.length) (B b : Nat) (bs : List Value) (c : Int) (w : World) (h : BuilderIn T rest B b bs w) (hlen : bs.length + 1 ≤ 140737488355328) :
    Calls Tryd.prog 52 #[.pointer (some ⟨b, 0, none⟩), .int .u8 c] w fun e w' => e = .returned .nilIface ∧ BLeft T rest B b (bs ++ [.int .u8 c]) w w' := by
  obtain ⟨i0, hi, hz0, hz1, hz2⟩ := info_parts infoBB
  have HN := Lib.hid hT.ne
  go_enter Tryd.func52, Tryd.ntmps52
  go_wp2_with fail
  refine (copyCheck_in T rest hT B b bs _ h).mono ?_
  rintro e w1 ⟨rfl, hL⟩
  obtain ⟨⟨hB, p, v, hp, hb, hown⟩, hb1, ho1⟩ := hL
  have hlt := (Array.getElem?_eq_some_iff.1 hb).1
  have c1 : w1.cell? ⟨b, 1, none⟩ = some v := by rw [cell_of hb]; rfl
  clear hT h
  have HW := Lib.hid (And.intro hB (And.intro hp (And.intro hb1 (And.intro ho1 (And.intro hb hown)))))
  clear hp hb1 ho1
  go_wp2_with (at_builtin; refine wpList_append_own _ rfl _ _ 50 rfl B 5 i0 (.int .u8 0) 1 1 Tryd.underlying50 hi hz0 hz1 hz2 rfl (by decide) _ _ _ rfl (hown.alloc _) ⟨w1.heap.size, 0, none⟩ 1 1 [.int .u8 c] rfl rfl ?c1 ?c2 ?c3 ?c4 ?c5 ?_)
  case c1 =>
    intro j u hj
    match j, hj with
    | 0, hj => simp at hj; subst hj; simp [Addr.add]
  case c2 => intro u hu; simp at hu; subst hu; rfl
  case c3 => unfold maxLen; omega
  case c4 => omega
  case c5 => simp; omega
  intro v' w2 hown' hg _
  obtain ⟨hB, hp, hb1, ho1, hb, hown⟩ := HW.out
  have hbA : (w1.alloc (.cells #[.int .u8 c] 5)).heap[b]? = some (.cells (.pointer p :: v :: rest).toArray T (0, 0)) := by rw [Lib.alloc_old w1 _ b hlt]; exact hb
  have hL := bleft_put (bs' := bs ++ [.int .u8 c]) HN.out hp (hb1.alloc (by omega) _) (ho1.alloc _) hB hbA (hown.alloc _) (by simpa using hown') hg
  have hb2 : w2.heap[b]? = some (.cells (.pointer p :: v :: rest).toArray T (0, 0)) := by
    rw [hg.block b (by simp; omega) (fun e => own_ne_b hown hb HN.out e.symm)]; exact hbA
  have d1 : w2.cell? ⟨b, 1, none⟩ = some v := by rw [cell_of hb2]; rfl
  have f1 : w2.frozen? ⟨b, 1, none⟩ = false := free_of hb2 1
  have HL := Lib.hid hL
  obtain ⟨g, cap, rfl⟩ : ∃ g cap, v' = .slice (some ⟨g, 0, none⟩) (bs.length + 1) cap := by
    rcases hown'.2 with ⟨_, h0⟩ | ⟨g, cap, cur, hv, _⟩
    · omega
    · exact ⟨g, cap, hv⟩
  clear hL hb2 hbA hown' hg hb1 ho1 hb hown hp
  go_wp2_with fail
  go_ret
  exact ⟨rfl, HL.out⟩
end Go.Proofs.YtemgeelgkokpcaaDoor
