/- The walks of a tree's New, Put, Get, Len. -/
import Derived.Test.YtheabbknflmnfaaDoorSmtMem
import Derived.Carry
import Derived.Handy
namespace Go.Proofs.YtheabbknflmnfaaDoor
open Go.RowKit Go.Maps
attribute [local irreducible] shaL

theorem zeroStr (w : World) : (zeroValue 9).run Tryd.prog w = .ok (.string ⟨#[]⟩) w := by kernel_rfl
theorem map_ne (mb : Nat) (w : World) : (binOp .eql 71 (.map (some mb)) (.map none)).run Tryd.prog w = .ok (.bool false) w := by kernel_rfl
theorem map_eq (w : World) : (binOp .eql 71 (.map none) (.map none)).run Tryd.prog w = .ok (.bool true) w := by kernel_rfl
theorem tnew_any (n0 : Nat) (X : List Nat) (w : World) (hX : ∀ x ∈ X, x < w.heap.size) (hn0 : n0 ≤ w.heap.size) : Calls Tryd.prog 9 #[] w fun e w' => e = .returned (.pointer (some ⟨w.heap.size, 0, none⟩)) ∧ TreeK n0 X w' w.heap.size [] ∧ w.grownBy w' none := by
  have HX := Lib.hid (And.intro hX hn0)
  clear hX hn0
  go_enter Tryd.func9, Tryd.ntmps9
  go_wp2_with fail
  go_ret
  refine ⟨rfl, ⟨_, heap_alloc_at _ _ _ rfl, ⟨HX.out.2, fun q => ?_⟩, .inl ⟨rfl, rfl⟩⟩, World.grownBy_alloc _ _ _⟩
  have := HX.out.1 _ q
  omega
set_option maxRecDepth 100000 in
theorem tput_any (n0 : Nat) (X : List Nat) (w : World) (b : Nat) (M : List PairS) (k v : ByteArray) (hT : TreeK n0 X w b M) (hX : ∀ x ∈ X, x < w.heap.size) (hn0 : n0 ≤ w.heap.size) (hk : k.size = 16) (hv : v.size ≤ 1000000) (hM : M.length < 1000000) :
    Calls Tryd.prog 10 #[.pointer (some ⟨b, 0, none⟩), .string k, .string v] w fun e w' => e = .returned (.int .i64 0) ∧ TreeK n0 X w' b (setM M (k, v)) ∧ Turn (rest n0 X) w w' := by
  obtain ⟨mv, hb, ho, hm⟩ := hT
  have hk16 : (k.size : Int) = 16 := by omega
  have hkey := keyV k (by unfold maxLen; omega)
  have hval := strR_mk v (by unfold maxLen; omega)
  have c0 := cell_of hb 0
  have f0 := free_of hb 0
  simp at c0
  have hlb : b < w.heap.size := (Array.getElem?_eq_some_iff.1 hb).1
  rcases hm with ⟨rfl, rfl⟩ | ⟨mb, D, rfl, h1, h2, h3, h4⟩
  · have HB := Lib.hid (And.intro hb (And.intro ho (And.intro hX (And.intro hn0 hlb))))
    have hmm := @run_makeMap Tryd.prog
    have he := map_eq
    have hown : ((w.alloc (.map #[] 0)).setCell ⟨b, 0, none⟩ (.map (some w.heap.size))).ownsMap Tryd.prog 9 strR w.heap.size 0 (.map []) := (World.ownsMap_made w Tryd.prog 9 strR).setCell (by show w.heap.size ≠ b; omega) _
    have HK := Lib.hid (And.intro hown (And.intro hkey hval))
    have hblk : ((w.alloc (.map #[] 0)).setCell ⟨b, 0, none⟩ (.map (some w.heap.size))).heap[b]? = some (.cells #[.map (some w.heap.size)] 73 (0, 0)) := heap_setCell (Below.heap_alloc _ _ _ hlb |>.trans hb) 0 _
    have HBK := Lib.hid hblk
    have d0 : ((w.alloc (.map #[] 0)).setCell ⟨b, 0, none⟩ (.map (some w.heap.size))).cell? ⟨b, 0, none⟩ = some (.map (some w.heap.size)) := cell_of hblk 0
    have c0a : (w.alloc (.map #[] 0)).cell? ⟨b, 0, none⟩ = some (.map none) := (World.cell?_alloc_lt _ _ _ hlb).trans c0
    have f0a : (w.alloc (.map #[] 0)).frozen? ⟨b, 0, none⟩ = false := free_of (Below.heap_alloc _ _ _ hlb |>.trans hb) 0
    have t1 : Turn (fun i => i = b) w ((w.alloc (.map #[] 0)).setCell ⟨b, 0, none⟩ (.map (some w.heap.size))) := ((Turn.refl (fun i => i = b) w).alloc _).setCell (fun _ => rfl) _ _
    have HT1 := Lib.hid t1
    clear hb ho hX hn0 hown hkey hval hblk t1 hk hv hM
    have hlb2 := Lib.hid hlb
    clear hlb
    go_enter Tryd.func10, Tryd.ntmps10
    go_wp2_with (at_mapUpdate; refine wpList_mapUpdate_own _ rfl _ _ _ 71 rfl 9 9 strK Tryd.underlying71 strR w.heap.size 0 (.map []) rfl HK.out.1 (by unfold maxLen; omega) _ _ _ rfl rfl HK.out.2.1 _ [] HK.out.2.2 ?_; intro w2 hown2 hg2)
    have HO2 := Lib.hid hown2
    have HG2 := Lib.hid hg2
    clear hown2 hg2
    go_wp2_with fail
    go_ret
    generalize hSZ : w.heap.size = SZ at HO2 HG2 HBK HT1 hlb2
    generalize (w.alloc (.map #[] 0)).setCell ⟨b, 0, none⟩ (.map (some SZ)) = w1 at HG2 HBK HT1
    have hlt2 : b < w.heap.size := HB.out.2.2.2.2
    refine ⟨rfl, ⟨.map (some SZ), (HG2.out.block b (by have := HT1.out.size; omega) (by simp; omega)).trans HBK.out, HB.out.2.1, .inr ⟨SZ, _, rfl, by have := HB.out.2.2.2.1; omega, fun q => by have := HB.out.2.2.1 _ q; omega, HO2.out, isM_nil.put tidy_empty (k, v)⟩⟩, ?_⟩
    have t2 : Turn (fun i => i = b ∨ i = SZ) w w2 := (HT1.out.mono (fun i _ q => .inl q)).row HG2.out (fun i _ e => .inr (by injection e with e; exact e.symm))
    refine t2.mono (fun i hi q => ?_)
    rcases q with rfl | q
    · exact HB.out.2.1
    · omega
  · have HB := Lib.hid (And.intro hb (And.intro ho (And.intro hX (And.intro hn0 hlb))))
    have he := map_ne mb
    have HK := Lib.hid (And.intro h3 (And.intro hkey hval))
    have HI := Lib.hid (And.intro h1 (And.intro h2 h4))
    have hMl : M.length < maxLen := by unfold maxLen; omega
    clear hb ho hX hn0 hlb h1 h2 h3 h4 hkey hval hk hv hM
    go_enter Tryd.func10, Tryd.ntmps10
    go_wp2_with (at_mapUpdate; refine wpList_mapUpdate_own _ rfl _ _ _ 71 rfl 9 9 strK Tryd.underlying71 strR mb M.length D rfl HK.out.1 hMl _ _ _ rfl rfl HK.out.2.1 _ [] HK.out.2.2 ?_; intro w2 hown2 hg2)
    have HO2 := Lib.hid hown2
    have HG2 := Lib.hid hg2
    clear hown2 hg2
    go_wp2_with fail
    go_ret
    have hmb : mb ≠ b := by
      intro e
      obtain ⟨es, cl, h5, _⟩ := HK.out.1
      rw [e, HB.out.1] at h5
      cases h5
    have hi := HI.out.2.2.put (HK.out.1.tidy strK) (k, v)
    refine ⟨rfl, ⟨.map (some mb), (HG2.out.block b HB.out.2.2.2.2 (by simp; exact fun q => hmb q.symm)).trans HB.out.1, HB.out.2.1, .inr ⟨mb, _, rfl, HI.out.1, HI.out.2.1, ?_, hi⟩⟩, (Turn.refl _ w).row HG2.out (fun i _ e => ?_)⟩
    · have h6 := ownsMap_exact HO2.out
      rw [hi.size] at h6
      exact h6
    · injection e with e
      subst e
      exact ⟨HI.out.1, HI.out.2.1⟩
theorem tget_nil (k : ByteArray) (w : World) : Calls Tryd.prog 36 #[.pointer none, .string k] w fun e w' => e = .returned (.tuple #[.string ⟨#[]⟩, .bool false]) ∧ w = w' := by
  go_enter Tryd.func36, Tryd.ntmps36
  go_wp2_with fail
  go_returns
  exact ⟨rfl, rfl⟩
set_option maxRecDepth 100000 in
theorem tget_any (n0 : Nat) (X : List Nat) (w : World) (b : Nat) (M : List PairS) (k : ByteArray) (hT : TreeK n0 X w b M) (hk : k.size ≤ maxLen) :
    Calls Tryd.prog 36 #[.pointer (some ⟨b, 0, none⟩), .string k] w fun e w' => e = .returned (.tuple #[.string (valM M k), .bool (hasM M k)]) ∧ w = w' := by
  obtain ⟨mv, hb, ho, hm⟩ := hT
  have hkey := keyV k hk
  have c0 := cell_of hb 0
  simp at c0
  rcases hm with ⟨rfl, rfl⟩ | ⟨mb, D, rfl, h1, h2, h3, h4⟩
  · have hrun := look_nil (w := w) true strK Tryd.underlying71 (zeroStr w) hkey
    have e1 : valM [] k = ⟨#[]⟩ := rfl
    have e2 : hasM [] k = false := rfl
    rw [e1, e2]
    clear hb ho hkey hk e1 e2
    go_enter Tryd.func36, Tryd.ntmps36
    go_wp2_with fail
    go_returns
    exact ⟨rfl, rfl⟩
  · have hv := h4.val k
    have hh := h4.has k
    have HK := Lib.hid (And.intro h3 hkey)
    have hh2 : hasM M k = Maps.has D (litK k) := hh.symm
    rw [hh2]
    have HV := Lib.hid hv
    have HZ := Lib.hid (zeroStr w)
    clear hb ho hkey hk h1 h2 h3 h4 hv hh hh2
    go_enter Tryd.func36, Tryd.ntmps36
    go_wp2_with (at_lookup; refine wpList_lookup_own_ok _ rfl _ _ 71 rfl 9 9 strK Tryd.underlying71 strR HZ.out (.lit (.string [])) [] (strR_mk ⟨#[]⟩ (by unfold maxLen; decide)) mb M.length D rfl HK.out.1 _ _ rfl HK.out.2 ?_; intro v ps hvr)
    obtain ⟨s, rfl, hz, _⟩ := strR_inv hvr
    rw [HV.out] at hz
    have hs : valM M k = s := by
      have h5 := (Prod.mk.inj hz).1
      injection h5 with h5
      injection h5 with h5
      exact ByteArray.ext (Array.toList_inj.1 h5)
    have HS := Lib.hid hs
    clear hvr hz hs
    go_wp2_with fail
    go_returns
    exact ⟨by rw [HS.out]; rfl, rfl⟩
end Go.Proofs.YtheabbknflmnfaaDoor
