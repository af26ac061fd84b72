/- The walks of above, Node, Root. -/
import Derived.Test.YtheabbknflmnfaaDoorSmtI
import Derived.Deep.RegionWith
import Derived.Deep.RegionHeld3
namespace Go.Proofs.YtheabbknflmnfaaDoor
open Go.RowKit Go.Maps
attribute [local irreducible] shaL

theorem above1_any (k : ByteArray) (hk : k.size ≤ maxLen) (d db : Nat) (hd : d ≤ 128) (w : World) (hc : w.cell? ⟨db, 0, none⟩ = some (.int .i64 d)) :
    Calls Tryd.prog 75 #[.string k, .pointer (some ⟨db, 0, none⟩)] w fun e w' => e = .returned (.bool (bitS k d == 1)) ∧ w.grownBy w' none := by
  have HB := Lib.hid (bit_any k hk d (by omega) w)
  have hb := bitS_le k d
  have he : ((bitS k d : Int) == 1) = (bitS k d == 1) := by
    rcases Nat.lt_or_ge (bitS k d) 1 with h | h
    · have : bitS k d = 0 := by omega
      rw [this]; decide
    · have : bitS k d = 1 := by omega
      rw [this]; decide
  generalize bitS k d = x at HB he ⊢
  clear hb hk
  go_enter Tryd.func75, Tryd.ntmps75
  go_wp2_with fail
  refine HB.out.mono ?_
  rintro e w2 ⟨rfl, g2⟩
  have HG := Lib.hid g2
  clear g2
  go_wp2_with fail
  go_ret
  exact ⟨rfl, HG.out⟩
/-- the pairs of these keys -/
def pairsM (M : List PairS) (L : List ByteArray) : List PairS := L.map fun k => (k, valM M k)
set_option maxRecDepth 100000 in
/-- a tree's look-up, in whatever world -/
theorem TreeAt.run {n0 : Nat} {X : List Nat} {w : World} {b : Nat} {M : List PairS} {mv : Value} (h : TreeAt n0 X w b M mv) (k : ByteArray) (hk : k.size ≤ maxLen) (hh : hasM M k = true) : (Instr.lookup 71 mv (.string k) false).run Tryd.prog w = .ok (.string (valM M k)) w := by
  rcases h.map with ⟨rfl, rfl⟩ | ⟨mb, D, rfl, h1, h2, h3, h4⟩
  · exact absurd hh (by simp [hasM])
  · obtain ⟨v, ps, hrun, hv⟩ := h3.lookup strK Tryd.underlying71 (zeroStr w) (strR_mk ⟨#[]⟩ (by unfold maxLen; decide)) (keyV k hk)
    obtain ⟨s, rfl, hz, _⟩ := strR_inv hv
    have h5 := h4.val k
    have h6 := (Prod.mk.inj hz).1
    have h7 : (⟨#[]⟩ : ByteArray).data.toList = [] := rfl
    rw [h7, h5] at h6
    injection h6 with h6
    injection h6 with h6
    rw [hrun, ← ByteArray.ext (Array.toList_inj.1 h6)]
theorem TreeK.drew {n0 : Nat} {X : List Nat} {w : World} {b : Nat} {M : List PairS} (h : TreeK n0 X w b M) : TreeK n0 X w.drew b M := h.grown (grownBy_drew (World.grownBy.refl _ _))
theorem TreeAt.grown {n0 : Nat} {X : List Nat} {w w' : World} {b : Nat} {M : List PairS} {mv : Value} (h : TreeAt n0 X w b M mv) (k : w.grownBy w' none) : TreeAt n0 X w' b M mv := by
  refine ⟨k.heap h.blk (by simp), h.own, ?_⟩
  rcases h.map with hm | ⟨mb, D, rfl, h1, h2, h3, h4⟩
  · exact .inl hm
  · exact .inr ⟨mb, D, rfl, h1, h2, h3.kept k (by simp), h4⟩
/-- what a look-up at a key's cell reads, in whatever world behind -/
theorem one_reads {n0 : Nat} {X : List Nat} {w : World} {b g o : Nat} {M : List PairS} {mv : Value} {k v : ByteArray} (h : TreeAt n0 X w b M mv) (hk : k.size ≤ maxLen) (hh : hasM M k = true) (hv : valM M k = v) (hc : w.cell? ⟨g, o, none⟩ = some (.string k)) (w' : World) (q : w.grownBy w' none) :
    w'.cell? ⟨g, o, none⟩ = some (.string k) ∧ w'.cell? ⟨b, 0, none⟩ = some mv ∧ (Instr.lookup 71 mv (.string k) false).run Tryd.prog w' = .ok (.string v) w' := by
  have h1 := h.grown q
  refine ⟨q.cell hc (by simp), by rw [cell_of h1.blk]; rfl, ?_⟩
  rw [h1.run k hk hh, hv]
set_option maxRecDepth 100000 in
set_option maxHeartbeats 1600000 in
theorem above_one (n0 : Nat) (X : List Nat) (b : Nat) (M : List PairS) (a : Option Addr) (c : Nat) (k : ByteArray) (d : Int) (w : World) (hT : TreeK n0 X w b M) (hv : StrsAt w (.slice a 1 c) [k]) (hk : k.size ≤ 1000000) (hvs : (valM M k).size ≤ 1000000) (hh : hasM M k = true) (hr : ShaReady w) :
    Calls Tryd.prog 51 #[.pointer (some ⟨b, 0, none⟩), .slice a 1 c, .int .i64 d] w fun e w' => e = .returned (.string (leafS k (valM M k))) ∧ w.grownBy w' none := by
  have hg : w.grownBy (w.alloc (.cells #[.int .i64 d] 3)) none := World.grownBy_alloc _ _ _
  have hT2 := hT.grown hg
  obtain ⟨mv, hT3⟩ := hT2
  obtain ⟨g, o, rfl, hcell⟩ := hv.at_ 0 k rfl
  have hc1 : (w.alloc (.cells #[.int .i64 d] 3)).cell? ⟨g, o, none⟩ = some (.string k) := hg.cell hcell (by simp)
  have HL : Hid (∀ w' : World, w.grownBy w' none → Calls Tryd.prog 52 #[.string k, .string (valM M k)] w' fun e w'' => e = .returned (.string (leafS k (valM M k))) ∧ w'.grownBy w'' none) := Lib.hid (fun w' q => tleaf_any k (valM M k) (by omega) (by omega) w' (hr.grown q))
  have HG := Lib.hid hg
  obtain ⟨v, hvv⟩ : ∃ v, valM M k = v := ⟨_, rfl⟩
  have HK := Lib.hid (one_reads hT3 (by unfold maxLen; omega) hh hvv hc1)
  rw [hvv] at HL ⊢
  clear hT hT3 hv hh hr hg hk hvs hcell hc1 hvv
  go_enter Tryd.func51, Tryd.ntmps51
  go_wp2_with fail
  generalize w.alloc (.cells #[.int .i64 d] 3) = w1 at *
  go_region_held3 (fun w' => w'.cell? ⟨g, o, none⟩ = some (.string k) ∧ w'.cell? ⟨b, 0, none⟩ = some mv ∧ (Instr.lookup 71 mv (.string k) false).run Tryd.prog w' = .ok (.string v) w') (first | exact HK.out _ ck | exact HK.out _ (grownBy_drew (World.grownBy.refl _ _)))
    ((go_at_call 52; (with_reducible refine (HL.out _ (grownBy_drew HG.out)).mono ?_); rintro e w3 ⟨rfl, g3⟩; have ck := grownBy_trans (grownBy_drew (World.grownBy.refl w1 none)) g3))
  go_wp2_with fail
  go_ret
  exact ⟨rfl, grownBy_trans HG.out ck⟩
end Go.Proofs.YtheabbknflmnfaaDoor
