/- The walk of band's Root, at any nodes. · Plain words for TopBands: puts band by band, and all together. No walk. · trans: plain words, and the walks of its small functions. · smt's Copy (maps.Clone); a tree with its blocks named. · trans: what is looked for in rows of changes, and of steps; stepOn. · trans's stepOn. · A region that draws its order and stores, last of all, into cells that it reads: what is held need not hold behind the stores that wait for all else (T). No walk, nothing of the program. · trans's Make: what lies in memory in its loop. No walk. · The walk of band's Root. -/
import Derived.Test.YtbhoeiopckmfhaaGreatDoorBndR
import Derived.Test.YtbhoeiopckmfhaaGreatDoorTopBandsB15
import Derived.Test.YtbhoeiopckmfhaaGreatDoorTopBandsB12
import Derived.Deep.DeepCutAuto
import Derived.Test.YtbhoeiopckmfhaaGreatDoorTopBandsB11
import Derived.Shelf.SlMaps.Clone
import Derived.Test.YtbhoeiopckmfhaaGreatDoorTopBandsB14
import Derived.Deep.RegionHeld
namespace Go.Proofs.YtbhoeiopckmfhaaGreatDoor
open Go.RowKit Go.Shelf
attribute [local irreducible] shaL

/-- the root above so many nodes -/
def rootJ : Nat → List ByteArray → ByteArray
  | 0, L => entT L 0
  | d + 1, L => rootJ d (joinedL L)
theorem joinN_fewG {a b : ByteArray} (ha : a.size ≤ 1000) (hb : b.size ≤ 1000) : (joinN a b).size ≤ 1000 := by
  unfold joinN
  split
  · exact hb
  · split
    · exact ha
    · rw [bothS_size]
      decide
theorem entT_fewG {L : List ByteArray} (h : ∀ s ∈ L, s.size ≤ 1000) (k : Nat) : (entT L k).size ≤ 1000 := by
  unfold entT
  rw [List.getD_eq_getElem?_getD]
  cases hk : L[k]? with
  | none => exact Nat.zero_le _
  | some s => exact h s (List.mem_of_getElem? hk)
theorem joinedL_few {L : List ByteArray} (h : ∀ s ∈ L, s.size ≤ 1000) : ∀ s ∈ joinedL L, s.size ≤ 1000 := by
  intro s hs
  obtain ⟨k, _, rfl⟩ := List.mem_map.1 hs
  exact joinN_fewG (entT_fewG h _) (entT_fewG h _)
theorem pow_succG (k : Nat) : 2 ^ (k + 1) = 2 * 2 ^ k := by rw [Nat.pow_succ, Nat.mul_comm]
def lenG : Value → Nat
  | .slice _ n _ => n
  | _ => 0
theorem own_capG {w : World} {B n m : Nat} {t : TypeId} {a : Option Addr} {c : Nat} {xs : List Value} (h : w.ownsRow B t 1 (.slice a m c) n xs) (h0 : 0 < n) : n ≤ c ∧ ∃ g, a = some ⟨g, 0, none⟩ ∧ g < w.heap.size := by
  rcases h.2 with ⟨_, h0'⟩ | ⟨g', cap', cur, e, _, hgb, h1, _⟩
  · omega
  · injection e with e1 e2 e3
    subst e3
    exact ⟨h1, g', e1, (Array.getElem?_eq_some_iff.1 hgb).1⟩
set_option maxRecDepth 100000 in
set_option maxHeartbeats 2000000 in
theorem broot_all (a : Option Addr) (cap : Nat) (L : List ByteArray) (d : Nat) (w : World) (hr : ShaReady w) (hv : StrsAt w (.slice a (2 ^ d) cap) L) (hL : L.length = 2 ^ d) (hcap : 2 ^ d ≤ cap) (hs : ∀ s ∈ L, s.size ≤ 1000) (hd : d ≤ 4) :
    Calls Tryz.prog 33 #[.slice a (2 ^ d : Nat) cap, .int .i64 d] w fun e w' => e = .returned (.tuple #[.string (rootJ d L), .int .i64 0]) ∧ w.grownBy w' none := by
  suffices hmain : Calls Tryz.prog 33 #[.slice a (2 ^ d : Nat) cap, .int .i64 d] w fun e w' => e = .returned (.tuple #[.string (rootJ d L), .int .i64 0]) ∧ Below w.heap.size w w' from hmain.mono (fun e w' h => ⟨h.1, grownBy_below h.2⟩)
  have HC := Lib.hid (fun w' => bcount_in d hd w')
  have hpos : ∀ k, 0 < 2 ^ k := fun k => Nat.pow_pos (by decide)
  have hle : 2 ^ d ≤ 2 ^ 4 := Nat.pow_le_pow_right (by decide) hd
  have HP := Lib.hid (hpos d)
  have HJ : Hid (∀ (k g o cap : Nat) (M : List ByteArray) (wr : World), k + 1 ≤ d → Below w.heap.size w wr → StrsAt wr (.slice (some ⟨g, o, none⟩) (2 ^ (k + 1)) cap) M → M.length = 2 ^ (k + 1) → 2 ^ (k + 1) ≤ cap → (∀ s ∈ M, s.size ≤ 1000) →
      Calls Tryz.prog 75 #[.slice (some ⟨g, o, none⟩) (2 ^ (k + 1) : Nat) cap] wr fun e w' => ∃ g2 c2, e = .returned (.slice (some ⟨g2, 0, none⟩) (2 ^ k : Nat) c2) ∧ 2 ^ k ≤ c2 ∧ StrsAt w' (.slice (some ⟨g2, 0, none⟩) (2 ^ k) c2) (joinedL M) ∧ Below wr.heap.size wr w') := by
    intro k g o cap M wr hk hB hst hlen hcap hM
    have hk4 : 2 ^ k ≤ 2 ^ 4 := Nat.pow_le_pow_right (by decide) (by omega)
    have hg : g < wr.heap.size := hst.lt (by rw [hlen]; exact hpos _)
    have hj := joined_any g o (2 ^ k) cap M wr (hr.grown (grownBy_below hB)) (hpos k) (by omega) (by rw [← pow_succG]; exact hcap) (by rw [hlen, pow_succG]) (by rw [← pow_succG]; exact hst) hM hg
    rw [← pow_succG] at hj
    refine hj.mono ?_
    rintro e w' ⟨u, rfl, hO, hB2⟩
    obtain ⟨a2, c2, rfl⟩ := slice_own' hO
    obtain ⟨h1, g2, rfl, _⟩ := own_capG hO (hpos k)
    exact ⟨g2, c2, rfl, h1, strs_own hO, hB2⟩
  obtain ⟨N, hN⟩ : ∃ N, 2 ^ d = N := ⟨_, rfl⟩
  have HST := Lib.hid (And.intro hv (And.intro hL (And.intro hcap hs)))
  rw [hN] at HC HP
  have hp0 : ((N : Int) == 0) = false := beq_eq_false_iff_ne.2 (by have := HP.out; omega)
  have HN := Lib.hid hN
  rw [hN]
  clear hN hle hpos hr hv hL hcap hs
  go_enter Tryz.func33, Tryz.ntmps33
  go_wp2_with fail
  refine (HC.out _).mono ?_
  rintro e w1 ⟨rfl, rfl⟩
  go_wp2_with fail
  refine (HC.out _).mono ?_
  rintro e w1 ⟨rfl, rfl⟩
  go_wp2_with fail
  go_loopw [0] (fun lv wr => ∃ (k : Nat) (M : List ByteArray) (a2 : Option Addr) (c2 : Nat), k ≤ d ∧ lv = .slice a2 (2 ^ k : Nat) c2 ∧ Hid (StrsAt wr (.slice a2 (2 ^ k) c2) M ∧ M.length = 2 ^ k ∧ 2 ^ k ≤ c2 ∧ (∀ s ∈ M, s.size ≤ 1000) ∧ rootJ k M = rootJ d L) ∧ Hid (Below w.heap.size w wr)) (fun lv _ => lenG lv)
  case atStart => exact ⟨d, L, a, cap, Nat.le_refl _, by rw [HN.out], Lib.hid ⟨HST.out.1, HST.out.2.1, HST.out.2.2.1, HST.out.2.2.2, rfl⟩, Below.refl _ _⟩
  case round =>
    obtain ⟨k, M, a2, c2, hk, rfl, HM, HB⟩ := hrel
    have hkp : 0 < 2 ^ k := Nat.pow_pos (by decide)
    have hk4 : 2 ^ k ≤ 2 ^ 4 := Nat.pow_le_pow_right (by decide) (by omega)
    obtain ⟨s, hs⟩ : ∃ s, M[0]? = some s := ⟨_, List.getElem?_eq_getElem (by have := HM.out.2.1; omega)⟩
    obtain ⟨g, o, rfl, c0⟩ := HM.out.1.at_ 0 s hs
    rw [Nat.add_zero] at c0
    cases k with
    | zero =>
      have hroot : s = rootJ d L := by
        have := HM.out.2.2.2.2
        rw [← this]
        show s = entT M 0
        have h2 := entT_at M 0 (by have := HM.out.2.1; omega)
        rw [hs] at h2
        exact Option.some.inj h2
      clear HJ HC hs
      go_wp2_with fail
      go_returns
      exact ⟨rfl, HB.out⟩
    | succ k =>
      have HJ2 := HJ.out k g o c2 M wr hk HB.out HM.out.1 HM.out.2.1 HM.out.2.2.1 HM.out.2.2.2.1
      have hlt : 2 ^ k < 2 ^ (k + 1) := by have := pow_succG k; have : 0 < 2 ^ k := Nat.pow_pos (by decide); omega
      have hN1 : 1 < 2 ^ (k + 1) := by have := pow_succG k; have : 0 < 2 ^ k := Nat.pow_pos (by decide); omega
      have HNX : Hid ((joinedL M).length = 2 ^ k ∧ (∀ s ∈ joinedL M, s.size ≤ 1000) ∧ rootJ k (joinedL M) = rootJ d L) := Lib.hid ⟨by rw [joinedL_len, HM.out.2.1, pow_succG, Nat.mul_div_cancel_left _ (by decide)], joinedL_few HM.out.2.2.2.1, HM.out.2.2.2.2⟩
      obtain ⟨N2, hN2⟩ : ∃ N2, 2 ^ (k + 1) = N2 := ⟨_, rfl⟩
      rw [hN2] at HJ2 hN1 hlt hk4 ⊢
      have HJ3 := Lib.hid HJ2
      have e1 : (1 : Int) < (N2 : Int) := by omega
      have e2 : (N2 : Int) > 1 := by omega
      clear HJ HC HJ2 hs c0 HM
      go_wp2_with fail
      refine HJ3.out.mono ?_
      rintro e w2 ⟨g2, c3, rfl, hc3, hst, hB2⟩
      have HO2 := Lib.hid (And.intro hst (And.intro HNX.out.1 (And.intro hc3 HNX.out.2)))
      have HB2 := Lib.hid (HB.out.trans (hB2.mono HB.out.size))
      clear hst hB2 hc3
      go_wp2_with fail
      go_roundw
      case rel => exact ⟨k, joinedL M, some ⟨g2, 0, none⟩, c3, by omega, rfl, HO2, HB2⟩
      case measure => simp [lenG]; omega
end Go.Proofs.YtbhoeiopckmfhaaGreatDoor

namespace Go.Proofs.YtbhoeiopckmfhaaGreatDoor

/-- all of a list put -/
def putsM (M : List PairS) (l : List PairS) : List PairS := l.foldl setM M
/-- those of a band -/
def bandL (d b : Nat) (l : List PairS) : List PairS := l.filter fun x => bandN x.1 d == b
/-- the bands below b put, one behind the other -/
def uptoM (M : List PairS) (l : List PairS) (d : Nat) : Nat → List PairS
  | 0 => M
  | b + 1 => putsM (uptoM M l d b) (bandL d b l)
theorem putsM_snoc (M : List PairS) (l : List PairS) (x : PairS) : putsM M (l ++ [x]) = setM (putsM M l) x := by simp [putsM]
theorem putsM_take (M : List PairS) (l : List PairS) (i : Nat) (h : i < l.length) : putsM M (l.take (i + 1)) = setM (putsM M (l.take i)) l[i] := by rw [List.take_succ_eq_append_getElem h, putsM_snoc]
theorem filter_set (M : List PairS) (x : PairS) (P : ByteArray → Bool) : (setM M x).filter (fun p => P p.1) = if P x.1 then setM (M.filter fun p => P p.1) x else M.filter fun p => P p.1 := by
  unfold setM
  rw [List.filter_append, List.filter_filter]
  by_cases h : P x.1 = true
  · rw [if_pos h, List.filter_filter, List.filter_cons_of_pos (p := fun p : PairS => P p.1) h, List.filter_nil]
    congr 1
    exact List.filter_congr fun p _ => Bool.and_comm _ _
  · rw [if_neg h, List.filter_cons_of_neg (p := fun p : PairS => P p.1) h, List.filter_nil, List.append_nil]
    refine List.filter_congr fun p _ => ?_
    by_cases hp : p.1 = x.1
    · rw [hp]; simp [h]
    · simp [hp]
theorem bandS_put (M : List PairS) (x : PairS) (d b : Nat) : bandS (setM M x) d b = if bandN x.1 d == b then setM (bandS M d b) x else bandS M d b := filter_set M x (fun k => bandN k d == b)
theorem bandS_puts : ∀ (l : List PairS) (M : List PairS) (d b : Nat), bandS (putsM M l) d b = putsM (bandS M d b) (bandL d b l)
  | [], _, _, _ => rfl
  | x :: r, M, d, b => by
    show bandS (putsM (setM M x) r) d b = _
    rw [bandS_puts r, bandS_put]
    unfold bandL
    by_cases h : (bandN x.1 d == b) = true
    · rw [if_pos h, List.filter_cons_of_pos (p := fun x : PairS => bandN x.1 d == b) h]; rfl
    · rw [if_neg h, List.filter_cons_of_neg (p := fun x : PairS => bandN x.1 d == b) h]
theorem bandL_twice (l : List PairS) (d b : Nat) : bandL d b (bandL d b l) = bandL d b l := by unfold bandL; rw [List.filter_filter]; congr 1; funext x; simp
theorem bandL_other (l : List PairS) (d b c : Nat) (h : b ≠ c) : bandL d c (bandL d b l) = [] := by
  unfold bandL
  rw [List.filter_filter, List.filter_eq_nil_iff]
  intro x _ hx
  simp at hx
  omega
theorem uptoM_band (M l : List PairS) (d c : Nat) : ∀ b, bandS (uptoM M l d b) d c = if c < b then bandS (putsM M l) d c else bandS M d c
  | 0 => by rw [if_neg (Nat.not_lt_zero _)]; rfl
  | b + 1 => by
    rw [uptoM, bandS_puts, uptoM_band M l d c b]
    by_cases hcb : c = b
    · subst hcb
      rw [if_neg (Nat.lt_irrefl _), if_pos (Nat.lt_succ_self _), bandL_twice, bandS_puts]
    · rw [bandL_other l d b c (fun e => hcb e.symm)]
      by_cases h : c < b
      · rw [if_pos h, if_pos (by omega)]; rfl
      · rw [if_neg h, if_neg (by omega)]; rfl
/-- the bands' nodes of all of them put are those of the whole -/
theorem upto_nodes (M l : List PairS) (d : Nat) : nodesB (uptoM M l d (2 ^ d)) d = nodesB (putsM M l) d := by
  unfold nodesB
  refine List.map_congr_left fun c hc => ?_
  rw [uptoM_band, if_pos (List.mem_range.1 hc)]
theorem upto_set (M l : List PairS) (d b : Nat) (hb : b < 2 ^ d) : nodesB (uptoM M l d (b + 1)) d = (nodesB (uptoM M l d b) d).set b (nodeN (128 - d) (bandS (uptoM M l d (b + 1)) d b) d) := by
  apply List.ext_getElem?
  intro c
  unfold nodesB
  by_cases hc : c < 2 ^ d
  · rw [List.getElem?_map, List.getElem?_range hc]
    by_cases hcb : b = c
    · subst hcb
      rw [List.getElem?_set_self (by rw [List.length_map, List.length_range]; exact hc)]
      rfl
    · rw [List.getElem?_set_ne hcb, List.getElem?_map, List.getElem?_range hc]
      show some (nodeN (128 - d) (bandS (uptoM M l d (b + 1)) d c) d) = some (nodeN (128 - d) (bandS (uptoM M l d b) d c) d)
      rw [uptoM_band, uptoM_band]
      by_cases h : c < b
      · rw [if_pos h, if_pos (by omega)]
      · rw [if_neg h, if_neg (by omega)]
  · rw [List.getElem?_eq_none (by rw [List.length_map, List.length_range]; omega), List.getElem?_eq_none (by rw [List.length_set, List.length_map, List.length_range]; omega)]
theorem rootJ_nodes (M : List PairS) : ∀ d, d ≤ 15 → rootJ d (nodesB M d) = nodeN 128 M 0
  | 0, _ => by rw [nodes_root]; rfl
  | d + 1, h => by
    rw [rootJ, nodes_join M d (by omega)]
    exact rootJ_nodes M d (by omega)
theorem band_has (M : List PairS) (k : ByteArray) (d : Nat) : hasM M k = hasM (bandS M d (bandN k d)) k := by
  unfold hasM bandS
  rw [List.any_filter]
  congr 1
  funext p
  by_cases h : p.1 = k
  · simp [h]
  · simp [h]
theorem band_val (d : Nat) (k : ByteArray) : ∀ (M : List PairS), valM M k = valM (bandS M d (bandN k d)) k
  | [] => rfl
  | x :: r => by
    have ih := band_val d k r
    unfold valM bandS at *
    by_cases h : x.1 = k
    · rw [List.filter_cons_of_pos (p := fun y : PairS => bandN y.1 d == bandN k d) (by rw [h]; simp), List.find?_cons_of_pos (by simpa using h), List.find?_cons_of_pos (by simpa using h)]
    · rw [List.find?_cons_of_neg (by simpa using h), ih]
      by_cases hb : (bandN x.1 d == bandN k d) = true
      · rw [List.filter_cons_of_pos (p := fun y : PairS => bandN y.1 d == bandN k d) hb, List.find?_cons_of_neg (by simpa using h)]
      · rw [List.filter_cons_of_neg (p := fun y : PairS => bandN y.1 d == bandN k d) hb]
/-- what all of them put has for a key is what the whole has -/
theorem upto_has (M l : List PairS) (d : Nat) (k : ByteArray) : hasM (uptoM M l d (2 ^ d)) k = hasM (putsM M l) k ∧ valM (uptoM M l d (2 ^ d)) k = valM (putsM M l) k := by
  rw [band_has _ k d, band_has (putsM M l) k d, band_val d k, band_val d k (putsM M l), uptoM_band, if_pos (bandN_lt k d)]
  exact ⟨rfl, rfl⟩
theorem upto_root (M l : List PairS) (d : Nat) (hd : d ≤ 15) : nodeN 128 (uptoM M l d (2 ^ d)) 0 = nodeN 128 (putsM M l) 0 := by
  rw [← rootJ_nodes _ d hd, ← rootJ_nodes (putsM M l) d hd, upto_nodes]
theorem start_zero (M : List PairS) (k : ByteArray) : startM M k 0 = M := by
  unfold startM
  rw [List.filter_eq_self]
  intro x _
  exact (belowB_iff _ _ 0).2 fun i h => absurd h (Nat.not_lt_zero i)
theorem node_zero (M : List PairS) (k : ByteArray) : nodeAt M k 0 = nodeN 128 M 0 := by unfold nodeAt; rw [start_zero]
theorem put_has (M : List PairS) (x : PairS) (k : ByteArray) : hasM (setM M x) k = (hasM M k || decide (x.1 = k)) := setM_any M x k
theorem puts_has : ∀ (l : List PairS) (M : List PairS) (k : ByteArray), hasM (putsM M l) k = (hasM M k || l.any fun x => decide (x.1 = k))
  | [], M, k => by simp [putsM]
  | x :: r, M, k => by
    show hasM (putsM (setM M x) r) k = _
    rw [puts_has r, put_has, List.any_cons, Bool.or_assoc]
theorem putsM_all (P : PairS → Prop) : ∀ (l : List PairS) (M : List PairS), (∀ x ∈ M, P x) → (∀ x ∈ l, P x) → (∀ x ∈ putsM M l, P x) ∧ (putsM M l).length ≤ M.length + l.length
  | [], M, h, _ => ⟨h, Nat.le_refl _⟩
  | x :: r, M, h, hl => by
    have h0 : ∀ y ∈ setM M x, P y := by
      intro y hy
      rcases List.mem_append.1 hy with q | q
      · exact h y ((List.mem_filter.1 q).1)
      · rw [List.mem_singleton.1 q]; exact hl x (by simp)
    obtain ⟨q1, q2⟩ := putsM_all P r (setM M x) h0 (fun y hy => hl y (by simp [hy]))
    refine ⟨q1, Nat.le_trans q2 ?_⟩
    have := List.length_filter_le (fun p : PairS => !(decide (p.1 = x.1))) M
    unfold setM
    rw [List.length_append, List.length_singleton, List.length_cons]
    omega
theorem uptoM_all (P : PairS → Prop) (l : List PairS) (M : List PairS) (h : ∀ x ∈ M, P x) (hl : ∀ x ∈ l, P x) (d : Nat) : ∀ b, (∀ x ∈ uptoM M l d b, P x) ∧ (uptoM M l d b).length ≤ M.length + b * l.length
  | 0 => ⟨h, by simp [uptoM]⟩
  | b + 1 => by
    obtain ⟨q1, q2⟩ := uptoM_all P l M h hl d b
    obtain ⟨r1, r2⟩ := putsM_all P (bandL d b l) (uptoM M l d b) q1 (fun x hx => hl x ((List.mem_filter.1 hx).1))
    refine ⟨r1, Nat.le_trans r2 ?_⟩
    have := List.length_filter_le (fun x : PairS => bandN x.1 d == b) l
    have e : (b + 1) * l.length = b * l.length + l.length := Nat.succ_mul _ _
    unfold bandL
    omega
theorem putsM_one : ∀ (l : List PairS) {M : List PairS}, M.Pairwise (fun p q => p.1 ≠ q.1) → (putsM M l).Pairwise (fun p q => p.1 ≠ q.1)
  | [], _, h => h
  | x :: r, M, h => putsM_one r (M := setM M x) (setM_one h x)
end Go.Proofs.YtbhoeiopckmfhaaGreatDoor

namespace Go.Proofs.YtbhoeiopckmfhaaGreatDoor
open Go.RowKit Go.Maps
attribute [local irreducible] shaL

/-- a band's node -/
def nodeB (M : List PairS) (d b : Nat) : ByteArray := nodeN (128 - d) (bandS M d b) d
set_option maxRecDepth 100000 in
theorem tdepth_any (d : Nat) (hd : d ≤ 4) (w : World) : Calls Tryz.prog 65 #[.int .i64 d] w fun e w' => e = .returned (.bool true) ∧ w.grownBy w' none := by
  have HC := Lib.hid (fun w' => bcount_in d hd w')
  have q : 0 < 2 ^ d := Nat.two_pow_pos d
  generalize 2 ^ d = D at HC q
  go_enter Tryz.func65, Tryz.ntmps65
  go_wp2_with fail
  refine (HC.out _).mono ?_
  rintro e w1 ⟨rfl, rfl⟩
  go_wp2_with fail
  go_ret
  exact ⟨by simp [q], World.grownBy.refl _ _⟩
set_option maxRecDepth 100000 in
theorem tisBand_any (b d : Nat) (hb : b < 2 ^ d) (hd : d ≤ 4) (w : World) : Calls Tryz.prog 68 #[.int .i64 b, .int .i64 d] w fun e w' => e = .returned (.bool true) ∧ w.grownBy w' none := by
  have HC := Lib.hid (fun w' => bcount_in d hd w')
  have q : (b : Int) < ((2 ^ d : Nat) : Int) := by omega
  have q0 : (0 : Int) ≤ (b : Int) := by omega
  generalize 2 ^ d = D at HC q
  clear hb
  go_enter Tryz.func68, Tryz.ntmps68
  go_wp2_with fail
  refine (HC.out _).mono ?_
  rintro e w1 ⟨rfl, rfl⟩
  go_wp2_with fail
  go_ret
  exact ⟨rfl, World.grownBy.refl _ _⟩
set_option maxRecDepth 100000 in
theorem tisOf_any (k v : ByteArray) (hk : k.size = 16) (d : Nat) (hd : d ≤ 4) (w : World) : Calls Tryz.prog 67 #[.agg #[.string k, .string v], .int .i64 (bandN k d : Nat), .int .i64 d] w fun e w' => e = .returned (.bool true) ∧ w.grownBy w' none := by
  have HC := Lib.hid (fun w' => bof_any k hk d hd w')
  generalize bandN k d = b at HC ⊢
  have hA := World.grownBy_alloc w (.cells #[.string k, .string v] 84) none
  have hb := heap_alloc_at w (.cells #[.string k, .string v] 84) _ rfl
  obtain ⟨W, hW⟩ : ∃ W, w.alloc (.cells #[.string k, .string v] 84) = W := ⟨_, rfl⟩
  rw [hW] at hA hb
  have c0 := cell_of hb 0
  have c1 := cell_of hb 1
  simp at c0 c1
  have HA := Lib.hid hA
  have HW := Lib.hid hW
  clear hA hb hW
  go_enter Tryz.func67, Tryz.ntmps67
  go_wp2_with (rw [HW.out])
  refine (HC.out _).mono ?_
  rintro e w1 ⟨rfl, g1⟩
  go_wp2_with fail
  go_ret
  exact ⟨by simp, grownBy_trans HA.out g1⟩
set_option maxRecDepth 100000 in
theorem make1_any (k v : ByteArray) (hk : k.size = 16) (d : Nat) (hd : d ≤ 4) (B1 B2 : Nat) (w : World) (h1 : w.cell? ⟨B1, 0, none⟩ = some (.int .i64 (bandN k d : Nat))) (h2 : w.cell? ⟨B2, 0, none⟩ = some (.int .i64 d)) :
    Calls Tryz.prog 66 #[.agg #[.string k, .string v], .pointer (some ⟨B1, 0, none⟩), .pointer (some ⟨B2, 0, none⟩)] w fun e w' => e = .returned (.bool false) ∧ w.grownBy w' none := by
  have HC := Lib.hid (fun w' => tisOf_any k v hk d hd w')
  generalize bandN k d = b at HC h1
  have hA := World.grownBy_alloc w (.cells #[.string k, .string v] 84) none
  have hb := heap_alloc_at w (.cells #[.string k, .string v] 84) _ rfl
  have h1 := hA.cell h1 (by simp)
  have h2 := hA.cell h2 (by simp)
  obtain ⟨W, hW⟩ : ∃ W, w.alloc (.cells #[.string k, .string v] 84) = W := ⟨_, rfl⟩
  rw [hW] at hA hb h1 h2
  have c0 := cell_of hb 0
  have c1 := cell_of hb 1
  simp at c0 c1
  have HA := Lib.hid hA
  have HW := Lib.hid hW
  clear hA hb hW
  go_enter Tryz.func66, Tryz.ntmps66
  go_wp2_with (rw [HW.out])
  refine (HC.out _).mono ?_
  rintro e w1 ⟨rfl, g1⟩
  go_wp2_with fail
  go_ret
  exact ⟨rfl, grownBy_trans HA.out g1⟩
end Go.Proofs.YtbhoeiopckmfhaaGreatDoor

namespace Go.Proofs.YtbhoeiopckmfhaaGreatDoor
open Go.RowKit Go.Maps
attribute [local irreducible] shaL

set_option maxRecDepth 100000 in
set_option maxHeartbeats 2000000 in
theorem mclone_any (b : Nat) (es : Array MapEntry) (clock : Nat) (w : World) (hb : w.heap[b]? = some (.map es clock)) :
    Calls Tryz.prog 60 #[.map (some b)] w fun e w' => e = .returned (.map (some w.heap.size)) ∧ w' = w.alloc (.map es clock) := by
  have hne := map_ne b
  go_enter Tryz.func60, Tryz.ntmps60
  go_wp2_with fail
  rw [run_callFunc_extern Tryz.func107 (by kernel_rfl) (by kernel_rfl) (by kernel_rfl) (e := Extern.MapsClone.clone) (by kernel_rfl), run_maps_clone_sl w 132 hb]
  simp only [Result.andThen]
  rw [Oper.upon_value]
  go_wp2_with fail
  rw [run_typeAssert_map_sl _ 132 _ _ _ _ Tryz.underlying132]
  simp only [Result.andThen]
  rw [Oper.upon_value]
  go_wp2_with fail
  go_ret
  exact ⟨rfl, rfl⟩
set_option maxRecDepth 100000 in
set_option maxHeartbeats 2000000 in
theorem mclone_nil (w : World) :
    Calls Tryz.prog 60 #[.map none] w fun e w' => e = .returned (.map none) ∧ w' = w := by
  have hq := map_eq
  go_enter Tryz.func60, Tryz.ntmps60
  go_wp2_with fail
  go_ret
  exact ⟨rfl, rfl⟩
theorem mclone_owns (b n : Nat) (D : DatU) (w : World) (hown : w.ownsMap Tryz.prog 9 strR b n D) :
    Calls Tryz.prog 60 #[.map (some b)] w fun e w' => e = .returned (.map (some w.heap.size)) ∧ w'.ownsMap Tryz.prog 9 strR w.heap.size n D ∧ w.grownBy w' none := by
  obtain ⟨es, clock, hb, F, hs, hD⟩ := hown
  refine (mclone_any b es clock w hb).mono fun e w' ⟨he, hw⟩ => ?_
  subst hw
  exact ⟨he, ⟨es, clock, (MapKept.heap_alloc w _).1, F, hs, hD⟩, World.grownBy_alloc _ _ _⟩
/-- a row's own block -/
def ownT (v : Value) : List Nat := v.ownBlock.toList
theorem ownT_mem {v : Value} {x : Nat} : x ∈ ownT v ↔ v.ownBlock = some x := by unfold ownT; simp
/-- the blocks of a tree whose field is mv -/
def treeBs (b : Nat) : Value → List Nat
  | .map (some mb) => [b, mb]
  | _ => [b]
/-- a tree, its blocks named -/
def TreeF (n0 : Nat) (X : List Nat) (w : World) (b : Nat) (M : List PairS) (F : List Nat) : Prop := ∃ mv, TreeAt n0 X w b M mv ∧ F = treeBs b mv
theorem TreeK.f {n0 : Nat} {X : List Nat} {w : World} {b : Nat} {M : List PairS} (h : TreeK n0 X w b M) : ∃ F, TreeF n0 X w b M F := by
  obtain ⟨mv, h⟩ := h
  exact ⟨_, mv, h, rfl⟩
theorem TreeF.k {n0 : Nat} {X : List Nat} {w : World} {b : Nat} {M : List PairS} {F : List Nat} (h : TreeF n0 X w b M F) : TreeK n0 X w b M := by
  obtain ⟨mv, h, _⟩ := h
  exact ⟨mv, h⟩
theorem TreeF.lt {n0 : Nat} {X : List Nat} {w : World} {b : Nat} {M : List PairS} {F : List Nat} (h : TreeF n0 X w b M F) : ∀ i ∈ F, n0 ≤ i ∧ i < w.heap.size ∧ i ∉ X := by
  obtain ⟨mv, h, rfl⟩ := h
  intro i hi
  rcases h.map with ⟨rfl, _⟩ | ⟨mb, D, rfl, h1, h2, h3, _⟩
  · obtain rfl : i = b := by simpa [treeBs] using hi
    exact ⟨h.own.1, h.lt, h.own.2⟩
  · have : i = b ∨ i = mb := by simpa [treeBs] using hi
    rcases this with rfl | rfl
    · exact ⟨h.own.1, h.lt, h.own.2⟩
    · exact ⟨h1, h3.lt, h2⟩
theorem TreeF.turn {n0 : Nat} {X Y : List Nat} {S : Nat → Prop} {w w' : World} {b : Nat} {M : List PairS} {F : List Nat} (h : TreeF n0 X w b M F) (k : Turn S w w') (hS : ∀ i ∈ F, ¬ S i) (hY : ∀ i ∈ Y, i ∈ X ∨ w.heap.size ≤ i) : TreeF n0 Y w' b M F := by
  obtain ⟨mv, h, rfl⟩ := h
  have hbl := h.lt
  refine ⟨mv, ⟨k.heap h.blk (hS b (by unfold treeBs; split <;> simp)), ⟨h.own.1, fun q => ?_⟩, ?_⟩, rfl⟩
  · rcases hY b q with q | q
    · exact h.own.2 q
    · omega
  · rcases h.map with hm | ⟨mb, D, rfl, h1, h2, h3, h4⟩
    · exact .inl hm
    · have hml := h3.lt
      refine .inr ⟨mb, D, rfl, h1, fun q => ?_, ?_, h4⟩
      · rcases hY mb q with q | q
        · exact h2 q
        · omega
      · obtain ⟨es, clock, hb3, r⟩ := h3
        exact ⟨es, clock, k.heap hb3 (hS mb (by simp [treeBs])), r⟩
theorem TreeF.grown {n0 : Nat} {X : List Nat} {w w' : World} {b : Nat} {M : List PairS} {F : List Nat} (h : TreeF n0 X w b M F) (k : w.grownBy w' none) : TreeF n0 X w' b M F :=
  h.turn (S := fun _ => False) (Turn.of_grown k) (fun _ _ q => q) (fun _ q => .inl q)
set_option maxRecDepth 100000 in
set_option maxHeartbeats 2000000 in
theorem tcopy_any (n0 : Nat) (X : List Nat) (w : World) (b : Nat) (M : List PairS) (hT : TreeK n0 X w b M) (n1 : Nat) (hn1 : n1 ≤ w.heap.size) (Y : List Nat) (hY : ∀ y ∈ Y, y < w.heap.size) :
    Calls Tryz.prog 27 #[.pointer (some ⟨b, 0, none⟩)] w fun e w' => ∃ b', e = .returned (.pointer (some ⟨b', 0, none⟩)) ∧ w.heap.size ≤ b' ∧ TreeK n1 Y w' b' M ∧ w.grownBy w' none := by
  obtain ⟨mv, hT⟩ := hT
  have c0 := cell_of hT.blk 0
  simp at c0
  have HY := Lib.hid (And.intro hn1 hY)
  rcases hT.map with ⟨rfl, hM⟩ | ⟨mb, D, rfl, h1, h2, hO, hI⟩
  · have HC := Lib.hid (fun w' => mclone_nil w')
    subst hM
    clear hT hn1 hY
    have hg := World.grownBy_alloc w (.cells #[.map none] 134) none
    have hb := heap_alloc_at w (.cells #[.map none] 134) _ rfl
    have HF := Lib.hid (And.intro hg hb)
    clear hg hb
    go_enter Tryz.func27, Tryz.ntmps27
    go_wp2_with fail
    refine (HC.out _).mono ?_
    rintro e w1 ⟨rfl, rfl⟩
    go_wp2_with fail
    go_ret
    exact ⟨_, rfl, Nat.le_refl _, ⟨_, HF.out.2, ⟨HY.out.1, fun q => by have := HY.out.2 _ q; omega⟩, .inl ⟨rfl, rfl⟩⟩, HF.out.1⟩
  · have HC := Lib.hid (fun w' q => mclone_owns mb M.length D w' q)
    have HO := Lib.hid (And.intro hO hI)
    clear hT hn1 hY hO hI h1 h2
    go_enter Tryz.func27, Tryz.ntmps27
    go_wp2_with fail
    refine (HC.out _ HO.out.1).mono ?_
    rintro e w1 ⟨rfl, ho1, g1⟩
    have hg := World.grownBy_alloc w1 (.cells #[.map (some w.heap.size)] 134) none
    have hb := heap_alloc_at w1 (.cells #[.map (some w.heap.size)] 134) _ rfl
    have HF := Lib.hid (And.intro hg (And.intro hb (And.intro ho1 g1)))
    clear hg hb ho1 g1
    go_wp2_with fail
    go_ret
    refine ⟨_, rfl, HF.out.2.2.2.size, ⟨_, HF.out.2.1, ⟨Nat.le_trans HY.out.1 HF.out.2.2.2.size, fun q => by have := HY.out.2 _ q; have := HF.out.2.2.2.size; omega⟩, .inr ⟨w.heap.size, D, rfl, HY.out.1, fun q => by have := HY.out.2 _ q; omega, ?_, HO.out.2⟩⟩, grownBy_trans HF.out.2.2.2 HF.out.1⟩
    have hml := HF.out.2.2.1.lt
    obtain ⟨es, clock, h3, r⟩ := HF.out.2.2.1
    exact ⟨es, clock, HF.out.1.heap h3 (by simp), r⟩
end Go.Proofs.YtbhoeiopckmfhaaGreatDoor

namespace Go.Proofs.YtbhoeiopckmfhaaGreatDoor
open Go.RowKit Go.Maps
attribute [local irreducible] shaL

set_option maxRecDepth 100000 in
set_option maxHeartbeats 1600000 in
theorem cindex_any (a : Option Addr) (n c : Nat) (L : List PairS) (w : World) (c1 c2 : Value) (hv : PairsAt w (.slice a n c) L) (hn : n ≤ 1000000)
    (hF : ∀ (x : PairS) (w' : World), x ∈ L → w.grownBy w' none → Calls Tryz.prog 66 #[.agg #[.string x.1, .string x.2], c1, c2] w' fun e w'' => e = .returned (.bool false) ∧ w'.grownBy w'' none) :
    Calls Tryz.prog 113 #[.slice a n c, .func (Fn.func 66) #[] #[c1, c2]] w fun e w' => e = .returned (.int .i64 (-1)) ∧ w.grownBy w' none := by
  have hln : L.length = n := by obtain ⟨_, _, e, _⟩ := hv; injection e with _ e _; exact e.symm
  have HV := Lib.hid hv
  have HF := Lib.hid hF
  have HLN := Lib.hid hln
  clear hv hF hln
  go_enter Tryz.func113, Tryz.ntmps113
  go_wp2_with fail
  go_loopw [5, 8] (fun _ iv wr => ∃ k : Nat, k ≤ n ∧ iv = .int .i64 k ∧ Hid (w.grownBy wr none)) (fun _ iv _ => n - (intOf iv).toNat)
  case atStart => exact ⟨0, Nat.zero_le _, rfl, World.grownBy.refl _ _⟩
  case round =>
    obtain ⟨k, hk, rfl, HG⟩ := hrel
    by_cases hlt : k < n
    · have d1 : (k : Int) < (n : Int) := by omega
      have d0 : (0 : Int) ≤ (k : Int) := by omega
      have hkl : k < L.length := by have := HLN.out; omega
      obtain ⟨a', cap', e, _, _, hc⟩ := HV.out
      injection e with e1 e2 e3
      subst e1
      obtain ⟨g, o, rfl, h1, h2⟩ := hc k hkl
      have c0 := HG.out.cell h1 (by simp)
      have c1' := HG.out.cell h2 (by simp)
      have HFX := Lib.hid (HF.out L[k] wr (List.getElem_mem hkl) HG.out)
      obtain ⟨p, hp⟩ : ∃ p, L[k] = p := ⟨_, rfl⟩
      rw [hp] at HFX c0 c1'
      obtain ⟨x, y⟩ := p
      dsimp only at HFX c0 c1'
      clear hc h1 h2 e2 e3 hp
      go_wp2_with fail
      refine HFX.out.mono ?_
      rintro e w3 ⟨rfl, g3⟩
      have HG3 := Lib.hid (grownBy_trans HG.out g3)
      clear g3
      go_wp2_with fail
      go_roundw
      case rel => exact ⟨k + 1, by omega, by go_num, HG3⟩
      case measure => simp [intOf]; omega
    · have hkn : k = n := by omega
      have d1 : ¬ (k : Int) < (n : Int) := by omega
      clear hkn
      go_wp2_with fail
      go_ret
      exact ⟨rfl, HG.out⟩
set_option maxRecDepth 100000 in
set_option maxHeartbeats 1600000 in
theorem ccontains_any (a : Option Addr) (n c : Nat) (L : List PairS) (w : World) (c1 c2 : Value) (hv : PairsAt w (.slice a n c) L) (hn : n ≤ 1000000)
    (hF : ∀ (x : PairS) (w' : World), x ∈ L → w.grownBy w' none → Calls Tryz.prog 66 #[.agg #[.string x.1, .string x.2], c1, c2] w' fun e w'' => e = .returned (.bool false) ∧ w'.grownBy w'' none) :
    Calls Tryz.prog 69 #[.slice a n c, .func (Fn.func 66) #[] #[c1, c2]] w fun e w' => e = .returned (.bool false) ∧ w.grownBy w' none := by
  have H := Lib.hid (cindex_any a n c L w c1 c2 hv hn hF)
  clear hv hF
  go_enter Tryz.func69, Tryz.ntmps69
  go_wp2_with fail
  refine H.out.mono ?_
  rintro e w1 ⟨rfl, g1⟩
  go_wp2_with fail
  go_ret
  exact ⟨rfl, g1⟩
/-- a step, as it is made -/
structure StepS where
  k : ByteArray
  v : ByteArray
  M : List PairS
  bv : Value
def StepS.prf (s : StepS) (d : Nat) : Value := .agg #[s.bv, .bool (decide (restT s.M s.k d ≠ [])), .string (keyOf (restT s.M s.k d)), .string (valOf (restT s.M s.k d))]
def StepS.cells (s : StepS) (d : Nat) : List Value := [.string s.k, .string s.v, s.bv, .bool (decide (restT s.M s.k d ≠ [])), .string (keyOf (restT s.M s.k d)), .string (valOf (restT s.M s.k d))]
def StepS.val (s : StepS) (d : Nat) : Value := .agg (s.cells d).toArray
def stepsV (d : Nat) (S : List StepS) : List Value := S.flatMap fun s => s.cells d
theorem stepsV_append (d : Nat) (S T : List StepS) : stepsV d (S ++ T) = stepsV d S ++ stepsV d T := List.flatMap_append
theorem stepsV_one (d : Nat) (s : StepS) : stepsV d [s] = s.cells d := by simp [stepsV]
theorem stepsV_len (d : Nat) : ∀ S : List StepS, (stepsV d S).length = S.length * 6
  | [] => rfl
  | s :: r => by
    show (s.cells d ++ stepsV d r).length = _
    rw [List.length_append, stepsV_len d r, List.length_cons]
    show 6 + _ = _
    omega
theorem stepsV_at (d : Nat) : ∀ (S : List StepS) (i j : Nat) (h : i < S.length), j < 6 → (stepsV d S)[i * 6 + j]? = (S[i].cells d)[j]?
  | s :: r, 0, j, _, hj => by
    show (s.cells d ++ stepsV d r)[0 * 6 + j]? = _
    rw [Nat.zero_mul, Nat.zero_add, List.getElem?_append_left (by show j < 6; exact hj)]
    rfl
  | s :: r, i + 1, j, h, hj => by
    show (s.cells d ++ stepsV d r)[(i + 1) * 6 + j]? = _
    rw [List.getElem?_append_right (by show 6 ≤ _; omega), show (i + 1) * 6 + j - (s.cells d).length = i * 6 + j by show _ - 6 = _; omega]
    exact stepsV_at d r i j (by simpa using h) hj
/-- a row of steps -/
def StepsAt (d : Nat) (w : World) (v : Value) (S : List StepS) : Prop :=
  ∃ a cap, v = .slice a S.length cap ∧ ∀ i (h : i < S.length), ∃ g o, a = some ⟨g, o, none⟩ ∧ ∀ j u, (S[i].cells d)[j]? = some u → w.cell? ⟨g, o + (i * 6 + j), none⟩ = some u
theorem steps_own {d : Nat} {w : World} {B : Nat} {v : Value} {S : List StepS} (h : w.ownsRow B 148 6 v S.length (stepsV d S)) : StepsAt d w v S := by
  rcases h.2 with ⟨rfl, h0⟩ | ⟨g, cap, cur, rfl, hB, hg, h1, h2, h3, h4⟩
  · exact ⟨none, 0, by rw [h0], fun i hi => by omega⟩
  · refine ⟨some ⟨g, 0, none⟩, cap, rfl, fun i hi => ⟨g, 0, rfl, fun j u hu => ?_⟩⟩
    have hj : j < 6 := (List.getElem?_eq_some_iff.1 hu).1
    rw [Nat.zero_add, ← hu, ← stepsV_at d S i j hi hj, ← h4, List.getElem?_take, if_pos (by omega), cell_of hg]
    simp
theorem StepsAt.grown {d : Nat} {w w' : World} {v : Value} {S : List StepS} (h : StepsAt d w v S) (k : w.grownBy w' none) : StepsAt d w' v S := by
  obtain ⟨a, cap, rfl, hc⟩ := h
  refine ⟨a, cap, rfl, fun i hi => ?_⟩
  obtain ⟨g, o, ha, h⟩ := hc i hi
  exact ⟨g, o, ha, fun j u hu => k.cell (h j u hu) (by simp)⟩
/-- each of a row of steps is one of a tree that puts them -/
structure StepsOk (w : World) (M : List PairS) (d b : Nat) (S : List StepS) : Prop where
  m : ∀ i (h : i < S.length), S[i].M = putsM M ((S.take i).map fun s => (s.k, s.v))
  own : ∀ s ∈ S, OwnP w s.bv s.M s.k d
  band : ∀ s ∈ S, bandN s.k d = b
  vals : ∀ s ∈ S, s.v.size ≤ 1000
theorem StepsOk.grown {w w' : World} {M : List PairS} {d b : Nat} {S : List StepS} (h : StepsOk w M d b S) (g : w.grownBy w' none) : StepsOk w' M d b S :=
  ⟨h.m, fun s hs => (h.own s hs).grown g, h.band, h.vals⟩
end Go.Proofs.YtbhoeiopckmfhaaGreatDoor

namespace Go.Proofs.YtbhoeiopckmfhaaGreatDoor
open Go.RowKit Go.Maps
attribute [local irreducible] shaL

theorem OwnP.turn {S : Nat → Prop} {w w' : World} {bv : Value} {M : List PairS} {key : ByteArray} {d : Nat} (h : OwnP w bv M key d) (k : Turn S w w') (hbv : ∀ g, bv.ownBlock = some g → ¬ S g) (hr : ShaReady w') : OwnP w' bv M key d := by
  obtain ⟨B, hB⟩ := h.row
  exact ⟨⟨B, own_turn hB k hbv⟩, hr, h.plain, h.vals, h.one, h.k16, h.d128⟩
theorem OwnP.lt {w : World} {bv : Value} {M : List PairS} {key : ByteArray} {d : Nat} (h : OwnP w bv M key d) : ∀ g, bv.ownBlock = some g → g < w.heap.size := by
  obtain ⟨B, hB⟩ := h.row
  exact fun g e => (hB.lt g e).2
theorem cells6 {w : World} {b : Nat} {a0 a1 a2 a3 a4 a5 : Value} {t : TypeId} (h : w.heap[b]? = some (.cells #[a0, a1, a2, a3, a4, a5] t (0, 0))) : w.cell? ⟨b, 0, none⟩ = some a0 ∧ w.cell? ⟨b, 1, none⟩ = some a1 ∧ w.cell? ⟨b, 2, none⟩ = some a2 ∧ w.cell? ⟨b, 3, none⟩ = some a3 ∧ w.cell? ⟨b, 4, none⟩ = some a4 ∧ w.cell? ⟨b, 5, none⟩ = some a5 :=
  ⟨by rw [cell_of h]; rfl, by rw [cell_of h]; rfl, by rw [cell_of h]; rfl, by rw [cell_of h]; rfl, by rw [cell_of h]; rfl, by rw [cell_of h]; rfl⟩
theorem cells4T {w : World} {b : Nat} {a0 a1 a2 a3 : Value} {t : TypeId} (h : w.heap[b]? = some (.cells #[a0, a1, a2, a3] t (0, 0))) : w.cell? ⟨b, 0, none⟩ = some a0 ∧ w.cell? ⟨b, 1, none⟩ = some a1 ∧ w.cell? ⟨b, 2, none⟩ = some a2 ∧ w.cell? ⟨b, 3, none⟩ = some a3 :=
  ⟨by rw [cell_of h]; rfl, by rw [cell_of h]; rfl, by rw [cell_of h]; rfl, by rw [cell_of h]; rfl⟩
theorem cells2T {w : World} {b : Nat} {a0 a1 : Value} {t : TypeId} (h : w.heap[b]? = some (.cells #[a0, a1] t (0, 0))) : w.cell? ⟨b, 0, none⟩ = some a0 ∧ w.cell? ⟨b, 1, none⟩ = some a1 :=
  ⟨by rw [cell_of h]; rfl, by rw [cell_of h]; rfl⟩
set_option maxRecDepth 100000 in
set_option maxHeartbeats 2000000 in
theorem stepOn_any (w0 : World) (hr : ShaReady w0) (tb : Nat) (X : List Nat) (M : List PairS) (k v : ByteArray) (d : Nat) (w : World) (hb0 : w0.grownBy w none) (hT : TreeK w0.heap.size X w tb M) (hP : Plain M) (hv : ∀ x ∈ M, x.2.size ≤ 1000) (hk : k.size = 16) (hvs : v.size ≤ 1000) (hd : d ≤ 128) (hX : ∀ x ∈ X, x < w.heap.size) (hM : M.length < 1000000) :
    Calls Tryz.prog 70 #[.agg #[.string k, .string v], .pointer (some ⟨tb, 0, none⟩), .int .i64 d] w fun e w' => ∃ bv, e = .returned ((⟨k, v, M, bv⟩ : StepS).val d) ∧ OwnP w' bv M k d ∧ (∀ g, bv.ownBlock = some g → w.heap.size ≤ g) ∧ TreeK w0.heap.size (ownT bv ++ X) w' tb (setM M (k, v)) ∧ Turn (rest w0.heap.size X) w w' := by
  have hA1 := World.grownBy_alloc w (.cells #[.string k, .string v] 84) none
  have hb1 := heap_alloc_at w (.cells #[.string k, .string v] 84) _ rfl
  obtain ⟨CB, hCB⟩ : ∃ CB, w.heap.size = CB := ⟨_, rfl⟩
  obtain ⟨W1, hW1⟩ : ∃ W1, w.alloc (.cells #[.string k, .string v] 84) = W1 := ⟨_, rfl⟩
  rw [hW1] at hA1 hb1
  rw [hCB] at hb1
  have hA2 := World.grownBy_alloc W1 (.cells #[.string ⟨#[]⟩, .string ⟨#[]⟩, .slice none 0 0, .bool false, .string ⟨#[]⟩, .string ⟨#[]⟩] 148) none
  have hb2 := heap_alloc_at W1 (.cells #[.string ⟨#[]⟩, .string ⟨#[]⟩, .slice none 0 0, .bool false, .string ⟨#[]⟩, .string ⟨#[]⟩] 148) _ rfl
  obtain ⟨RB, hRB⟩ : ∃ RB, W1.heap.size = RB := ⟨_, rfl⟩
  obtain ⟨W2, hW2⟩ : ∃ W2, W1.alloc (.cells #[.string ⟨#[]⟩, .string ⟨#[]⟩, .slice none 0 0, .bool false, .string ⟨#[]⟩, .string ⟨#[]⟩] 148) = W2 := ⟨_, rfl⟩
  rw [hW2] at hA2 hb2
  rw [hRB] at hb2
  have hbc := hA2.heap hb1 (by simp)
  have hg2 := grownBy_trans hA1 hA2
  have hT2 : TreeK w0.heap.size (RB :: CB :: X) W2 tb M := hT.more hg2 (fun i hi => by
    have h1 := hA1.size
    rcases List.mem_cons.1 hi with rfl | hi
    · exact .inr (by omega)
    · rcases List.mem_cons.1 hi with rfl | hi
      · exact .inr (by omega)
      · exact .inl hi)
  obtain ⟨c0, c1⟩ := cells2T hbc
  have HPR := Lib.hid (prove_any w0.heap.size (RB :: CB :: X) W2 tb M k d hT2 hP hk hd (hr.grown (grownBy_trans hb0 hg2)))
  have HW := Lib.hid (And.intro hW1 (And.intro hW2 (And.intro hCB hRB)))
  have HB := Lib.hid (And.intro hbc (And.intro hb2 hg2))
  have HT := Lib.hid hT2
  have HP := Lib.hid (And.intro hP (And.intro hv (And.intro hk (And.intro hvs (And.intro hd hM)))))
  have HX := Lib.hid hX
  have HR := Lib.hid hr
  have HG := Lib.hid hb0
  have HS := Lib.hid (And.intro (show CB < RB by have := (Array.getElem?_eq_some_iff.1 hb1).1; omega) (show RB < W2.heap.size from (Array.getElem?_eq_some_iff.1 hb2).1))
  obtain ⟨n0, hn0⟩ : ∃ n0, w0.heap.size = n0 := ⟨_, rfl⟩
  have HN0 := Lib.hid hn0
  rw [hn0] at HT ⊢
  unfold StepS.val StepS.cells
  dsimp only
  obtain ⟨DD, hDD⟩ : ∃ DD, decide (restT M k d ≠ []) = DD := ⟨_, rfl⟩
  have HDD := Lib.hid hDD
  rw [hDD] at HPR
  clear hDD
  generalize keyOf (restT M k d) = KO at HPR ⊢
  generalize valOf (restT M k d) = VO at HPR ⊢
  clear hr hb0 hT hP hv hk hvs hd hX hM hn0 hA1 hb1 hA2 hb2 hbc hg2 hT2 hW1 hW2 hRB
  go_enter Tryz.func70, Tryz.ntmps70
  go_wp2_with (first | rw [HW.out.1] | rw [HW.out.2.1] | rw [hCB] | rw [HW.out.2.2.2])
  refine HPR.out.mono ?_
  rintro e w1 ⟨bv, rfl, ho1, g1⟩
  obtain ⟨ba, bc, rfl⟩ := slice_own' ho1
  obtain ⟨nn, hnn⟩ : ∃ nn, (wayT M k d).length = nn := ⟨_, rfl⟩
  have HNN := Lib.hid hnn
  rw [hnn] at ho1 ⊢
  obtain ⟨bv, hbv⟩ : ∃ bv, Value.slice ba nn bc = bv := ⟨_, rfl⟩
  rw [hbv] at ho1
  have hP1 := World.grownBy_alloc w1 (.cells #[bv, .bool (DD), .string KO, .string VO] 92) none
  have hbp := heap_alloc_at w1 (.cells #[bv, .bool (DD), .string KO, .string VO] 92) _ rfl
  obtain ⟨PB, hPB⟩ : ∃ PB, w1.heap.size = PB := ⟨_, rfl⟩
  obtain ⟨W3, hW3⟩ : ∃ W3, w1.alloc (.cells #[bv, .bool (DD), .string KO, .string VO] 92) = W3 := ⟨_, rfl⟩
  rw [hW3] at hP1 hbp
  rw [hPB] at hbp
  have g3 := grownBy_trans g1 hP1
  have hX3 : ∀ x ∈ PB :: (ownT bv ++ (RB :: CB :: X)), x < W3.heap.size := by
    intro x hx
    have h3 := hP1.size
    have h1 := g1.size
    have hp : PB < W3.heap.size := (Array.getElem?_eq_some_iff.1 hbp).1
    have hs := HS.out
    rcases List.mem_cons.1 hx with rfl | hx
    · exact hp
    · rcases List.mem_append.1 hx with q | q
      · have := (ho1.lt x (ownT_mem.1 q)).2; omega
      · rcases List.mem_cons.1 q with rfl | q
        · omega
        · rcases List.mem_cons.1 q with rfl | q
          · omega
          · have := HX.out x q
            have := HB.out.2.2.size
            omega
  have hT3 : TreeK n0 (PB :: (ownT bv ++ (RB :: CB :: X))) W3 tb M := HT.out.more g3 (fun i hi => by
    have h1 := g1.size
    rcases List.mem_cons.1 hi with rfl | hi
    · exact .inr (by omega)
    · rcases List.mem_append.1 hi with q | q
      · exact .inr (ho1.lt i (ownT_mem.1 q)).1
      · exact .inl q)
  have hn3 : n0 ≤ W3.heap.size := by have := HN0.out; have := HG.out.size; have := HB.out.2.2.size; have := g3.size; omega
  have HPUT := Lib.hid (tput_any n0 (PB :: (ownT bv ++ (RB :: CB :: X))) W3 tb M k v hT3 hX3 hn3 HP.out.2.2.1 (by have := HP.out.2.2.2.1; omega) HP.out.2.2.2.2.2)
  have hc3 := g3.heap HB.out.1 (by simp)
  have hr3 := g3.heap HB.out.2.1 (by simp)
  have HB3 := Lib.hid (And.intro hc3 (And.intro hr3 (And.intro hbp g3)))
  have HO3 := Lib.hid (own_keep ho1 hP1 (fun _ _ e => by cases e))
  have HO := Lib.hid (And.intro ho1 g1)
  have HW3 := Lib.hid (And.intro hW3 hPB)
  have HX3 := Lib.hid hX3
  subst hbv
  have c01 := cells2T hc3
  rw [← hW3] at c01
  obtain ⟨c0, c1⟩ := c01
  clear hP1 hbp hW3 hPB g3 hX3 hT3 hn3 hc3 hr3 ho1 g1 HPR hnn
  go_wp2_with fail
  rw [HW3.out.1, HW3.out.2]
  refine HPUT.out.mono ?_
  rintro e w4 ⟨rfl, hT4, t4⟩
  have hc4 := t4.inX (by simp) HB3.out.1
  have hr4 := t4.inX (by simp) HB3.out.2.1
  have hp4 := t4.inX (by simp) HB3.out.2.2.1
  obtain ⟨c0, c1⟩ := cells2T hc4
  obtain ⟨p0, p1, p2, p3⟩ := cells4T hp4
  obtain ⟨r0, r1, r2, r3, r4, r5⟩ := cells6 hr4
  have f0 := fun j => free_of hr4 j
  have H4 := Lib.hid (And.intro hr4 (And.intro hT4 t4))
  clear hc4 hr4 hp4 hT4 t4 HPUT
  go_wp2_with fail
  have hr5 : ((((((w4.setCell ⟨RB, 0, none⟩ (.string k)).setCell ⟨RB, 1, none⟩ (.string v)).setCell ⟨RB, 2, none⟩ (.slice ba nn bc)).setCell ⟨RB, 3, none⟩ (.bool DD)).setCell ⟨RB, 4, none⟩ (.string KO)).setCell ⟨RB, 5, none⟩ (.string VO)).heap[RB]? = some (.cells #[.string k, .string v, .slice ba nn bc, .bool DD, .string KO, .string VO] 148 (0, 0)) :=
    heap_setCell (heap_setCell (heap_setCell (heap_setCell (heap_setCell (heap_setCell H4.out.1 0 _) 1 _) 2 _) 3 _) 4 _) 5 _
  have k5 : Turn (fun i => i = RB) w4 ((((((w4.setCell ⟨RB, 0, none⟩ (.string k)).setCell ⟨RB, 1, none⟩ (.string v)).setCell ⟨RB, 2, none⟩ (.slice ba nn bc)).setCell ⟨RB, 3, none⟩ (.bool DD)).setCell ⟨RB, 4, none⟩ (.string KO)).setCell ⟨RB, 5, none⟩ (.string VO)) :=
    ((((((Turn.refl (fun i => i = RB) w4).setCell (fun _ => rfl) _ _).setCell (fun _ => rfl) _ _).setCell (fun _ => rfl) _ _).setCell (fun _ => rfl) _ _).setCell (fun _ => rfl) _ _).setCell (fun _ => rfl) _ _
  obtain ⟨W5, hW5⟩ : ∃ W5, (((((w4.setCell ⟨RB, 0, none⟩ (.string k)).setCell ⟨RB, 1, none⟩ (.string v)).setCell ⟨RB, 2, none⟩ (.slice ba nn bc)).setCell ⟨RB, 3, none⟩ (.bool DD)).setCell ⟨RB, 4, none⟩ (.string KO)).setCell ⟨RB, 5, none⟩ (.string VO) = W5 := ⟨_, rfl⟩
  rw [hW5] at hr5 k5 ⊢
  clear r0 r1 r2 r3 r4 r5 hW5
  obtain ⟨r0, r1, r2, r3, r4, r5⟩ := cells6 hr5
  refine bodyPost_ret (v := .agg #[.string k, .string v, .slice ba nn bc, .bool DD, .string KO, .string VO]) (by simp [results, Tryz.results70, go_sem, r0, r1, r2, r3, r4, r5]; try rfl) rfl ?_
  have hs := HS.out
  have hb := HB3.out.2.2.2
  have hsz1 := HO.out.2.size
  have hnew : ∀ g, (Value.slice ba nn bc).ownBlock = some g → W2.heap.size ≤ g := fun g e => (HO.out.1.lt g e).1
  have hsW : w.heap.size ≤ W2.heap.size := HB.out.2.2.size
  have hnRB : ∀ g, (Value.slice ba nn bc).ownBlock = some g → g ≠ RB := fun g e q => by have := hnew g e; omega
  have t35 : Turn (rest n0 X) W3 W5 := (rest_mono (fun y hy => by simp [hy]) H4.out.2.2).then (k5.mono (fun i hi e => by
    refine ⟨?_, fun q => ?_⟩
    · rw [e]; have := HN0.out; have := HG.out.size; omega
    · rw [e] at q; have := HX.out RB q; omega))
  refine ⟨.slice ba nn bc, congrArg Ending.returned ?_, ?_, fun g e => Nat.le_trans hsW (hnew g e), ?_, ?_⟩
  · rw [← HDD.out]
  · refine ⟨⟨W2.heap.size, by rw [HNN.out]; exact own_turn (own_turn HO3.out H4.out.2.2 (fun g e q => q.2 (by simp [ownT_mem.2 e]))) k5 (fun g e q => hnRB g e q)⟩, ?_, HP.out.1, HP.out.2.1, TreeK.one HT.out, HP.out.2.2.1, HP.out.2.2.2.2.1⟩
    have hbel : Below n0 w0 W3 := by rw [← HN0.out]; exact below_grownBy (grownBy_trans (grownBy_trans HG.out HB.out.2.2) hb)
    have q1 := t35.bel hbel (by have := HN0.out; have := HG.out.size; have := hb.size; omega)
    rw [← HN0.out] at q1
    exact HR.out.grown (grownBy_below q1)
  · refine TreeK.turn H4.out.2.1 k5 (fun i _ e => by rw [e]; simp) (fun i hi => .inl ?_)
    rcases List.mem_append.1 hi with q | q
    · simp [q]
    · simp [q]
  · exact ((Turn.of_grown HB.out.2.2).grown hb).then t35
end Go.Proofs.YtbhoeiopckmfhaaGreatDoor

namespace Go.Proofs.YtbhoeiopckmfhaaGreatDoor
open Go

section
variable {P : Program} {ops : Array Oper} {Q : Exit → Act → World → Prop} {md : Region.Mode} {S : World → Prop} {T : List Nat}
/-- whatever order: S holds behind each but those of T -/
def AnyT (P : Program) (md : Region.Mode) (ops : Array Oper) (Q : Exit → Act → World → Prop) (S : World → Prop) (T : List Nat) : Nat → Array Bool → Act → World → Prop
  | 0, l, a, w => Region.ready md ops l = [] ∧ Q .normal a w
  | n + 1, l, a, w => (Region.ready md ops l = [] → Q .normal a w) ∧ ∀ i ∈ Region.ready md ops l, wpOp P ops Q i (fun a' w' => (i ∈ T ∨ S w') ∧ AnyT P md ops Q S T n (l.setIfInBounds i true) a' w') a w
theorem AnyT.any : ∀ (n : Nat) (l : Array Bool) (a : Act) (w : World), AnyT P md ops Q S T n l a w → wpAny P md ops Q n l a w
  | 0, _, _, _, h => h
  | n + 1, l, a, w, h => ⟨h.1, fun i hi => wpOp_mono (fun a' w' q => AnyT.any n _ a' w' q.2) (h.2 i hi)⟩
/-- what has come up had all that it waits for behind it -/
def DownT (md : Region.Mode) (ops : Array Oper) (l : Array Bool) : Prop := ∀ (k : Nat) (o : Oper), ops[k]? = some o → l.getD k false = true → ∀ e ∈ o.after, Region.binds md e = true → l.getD e.on false = true
def downB (md : Region.Mode) (ops : Array Oper) (l : Array Bool) : Bool := (List.range ops.size).all fun k => !(l.getD k false) || (match ops[k]? with
  | some o => o.after.all fun e => !(Region.binds md e) || l.getD e.on false
  | none => true)
theorem downB_spec {l : Array Bool} (h : downB md ops l = true) : DownT md ops l := by
  intro k o ho hk e he hb
  have hlt : k < ops.size := (Array.getElem?_eq_some_iff.1 ho).1
  have h1 := List.all_eq_true.1 h k (List.mem_range.2 hlt)
  rw [hk, ho] at h1
  simp only [Bool.not_true, Bool.false_or] at h1
  have h2 := (Array.all_eq_true_iff_forall_mem.1 h1) e he
  rw [hb] at h2
  simpa using h2
theorem DownT.set {l : Array Bool} (h : DownT md ops l) {j : Nat} (hj : j ∈ Region.ready md ops l) : DownT md ops (l.setIfInBounds j true) := by
  intro k o ho hk e he hb
  rcases Nat.decEq j k with hjk | hjk
  · rw [getD_set_ne false hjk] at hk
    exact getD_set_true (h k o ho hk e he hb)
  · subst hjk
    obtain ⟨_, o', ho', hall⟩ := mem_ready.1 hj
    rw [ho] at ho'
    cases ho'
    exact getD_set_true (hall e he hb)
/-- does number j wait for number i, by way of others? -/
def reachB (md : Region.Mode) (ops : Array Oper) (i : Nat) : Nat → Nat → Bool
  | 0, _ => false
  | f + 1, j => match ops[j]? with
    | some o => o.after.any fun e => Region.binds md e && (e.on == i || reachB md ops i f e.on)
    | none => false
theorem reach_listed {l : Array Bool} (hD : DownT md ops l) {i : Nat} : ∀ (f j : Nat), reachB md ops i f j = true → (l.getD j false = true ∨ j ∈ Region.ready md ops l) → l.getD i false = true
  | 0, _, h, _ => by cases h
  | f + 1, j, h, hj => by
    rw [reachB] at h
    cases ho : ops[j]? with
    | none => rw [ho] at h; cases h
    | some o =>
      rw [ho] at h
      obtain ⟨e, he, hb⟩ := Array.any_eq_true'.1 h
      rw [Bool.and_eq_true, Bool.or_eq_true] at hb
      have hl : l.getD e.on false = true := by
        rcases hj with hj | hj
        · exact hD j o ho hj e he hb.1
        · obtain ⟨_, o', ho', hall⟩ := mem_ready.1 hj
          rw [ho] at ho'
          cases ho'
          exact hall e he hb.1
      rcases hb.2 with hi | hi
      · have : e.on = i := by simpa using hi
        rw [← this]; exact hl
      · exact reach_listed hD f e.on hi (.inl hl)
/-- those of T wait for number i -/
def waitsT (md : Region.Mode) (ops : Array Oper) (T : List Nat) (i : Nat) : Bool := T.all fun j => reachB md ops i ops.size j
theorem AnyT.first {i : Nat} {oi : Oper} {v : Value} (hi : ops[i]? = some oi) (hsel : ∀ (j : Nat) (o : Oper) cs b, ops[j]? = some o → o.op ≠ .select cs b)
    (hQ : ∀ c a w, Q (.panic c) (a.put oi.dst v) w → Q (.panic c) a w) (hT : waitsT md ops T i = true) :
    ∀ (n : Nat) (l : Array Bool) (a : Act) (w : World), DownT md ops l →
      (∀ j oj, ops[j]? = some oj → j ≠ i → l.getD j true = false → (∀ e ∈ oj.after, Region.binds md e = true → e.on ≠ i) → oi.apart ops oj = true) →
      i ∈ Region.ready md ops l → YieldsIf P ops S oi v a → S w →
      AnyT P md ops Q S T n (l.setIfInBounds i true) (a.put oi.dst v) w → AnyT P md ops Q S T (n + 1) l a w := by
  intro n
  induction n with
  | zero =>
    intro l a w _ _ hr hy hS H
    refine ⟨fun h => (by rw [h] at hr; cases hr), fun j hj => ?_⟩
    rcases Nat.decEq j i with hji | hji
    · exact absurd (H.1 ▸ ready_mono hj hji) (by simp)
    · subst hji
      exact hy.wpOp hi hS ⟨.inr hS, H⟩
  | succ n ih =>
    intro l a w hD hfree hr hy hS H
    refine ⟨fun h => (by rw [h] at hr; cases hr), fun j hj => ?_⟩
    rcases Nat.decEq j i with hji | hji
    case isTrue =>
      subst hji
      exact hy.wpOp hi hS ⟨.inr hS, H⟩
    have h1 := H.2 j (ready_mono hj hji)
    obtain ⟨hjun, oj, hoj, hall⟩ := mem_ready.1 hj
    have hnot : ∀ e ∈ oj.after, Region.binds md e = true → e.on ≠ i := by
      intro e he hb heq
      have q1 := hall e he hb
      have q0 := (mem_ready.1 hr).1
      rw [heq] at q1
      rcases Nat.lt_or_ge i l.size with h' | h'
      · simp [h'] at q0 q1; rw [q0] at q1; cases q1
      · simp [Array.getElem?_eq_none h'] at q1
    have hjT : j ∉ T := by
      intro hj2
      have q := reach_listed hD _ j (List.all_eq_true.1 hT j hj2) (.inr hj)
      have q0 := (mem_ready.1 hr).1
      rcases Nat.lt_or_ge i l.size with h' | h'
      · simp [h'] at q0 q; rw [q0] at q; cases q
      · simp [Array.getElem?_eq_none h'] at q
    have h2 := wpOp_putIf hoj (hfree j oj hoj hji hjun hnot) (fun cs b => hsel i oi cs b hi) (fun cs b => hsel j oj cs b hoj) hQ hy h1
    refine wpOp_mono (fun a' w' q => ?_) h2
    have hS' : S w' := q.2.1.resolve_left hjT
    refine ⟨.inr hS', ih (l.setIfInBounds j true) a' w' (hD.set hj) (fun k ok hk hki hun hno => hfree k ok hk hki ?_ hno) (ready_mono hr (Ne.symm hji)) q.1 hS' ?_⟩
    · rcases Nat.decEq j k with hjk | hjk
      · rwa [getD_set_ne true hjk] at hun
      · subst hjk; exact hjun
    · rw [Array.setIfInBounds_comm _ _ hji]
      exact q.2.2
theorem AnyT.take {i : Nat} {oi : Oper} {v : Value} {n : Nat} {l : Array Bool} {a : Act} {w : World} (hi : ops[i]? = some oi)
    (hs : Region.noSelect ops = true) (hT : waitsT md ops T i = true) (hD : downB md ops l = true) (hf : Region.free md ops l i = true) (hr : (Region.ready md ops l).contains i = true)
    (hQ : ∀ c a w, Q (.panic c) (a.put oi.dst v) w → Q (.panic c) a w) (hy : YieldsIf P ops S oi v a) (hS : S w)
    (h : AnyT P md ops Q S T n (l.setIfInBounds i true) (a.put oi.dst v) w) : AnyT P md ops Q S T (n + 1) l a w :=
  AnyT.first hi (Region.noSelect_spec hs) hQ hT n l a w (downB_spec hD) (Region.free_spec hi hf) (by simpa using hr) hy hS h
/-- each of a list of those that may come up now -/
def AllT (P : Program) (md : Region.Mode) (ops : Array Oper) (Q : Exit → Act → World → Prop) (S : World → Prop) (T : List Nat) (n : Nat) (l : Array Bool) (a : Act) (w : World) (rs : List Nat) : Prop :=
  ∀ i ∈ rs, wpOp P ops Q i (fun a' w' => (i ∈ T ∨ S w') ∧ AnyT P md ops Q S T n (l.setIfInBounds i true) a' w') a w
theorem AllT.nil {n : Nat} {l : Array Bool} {a : Act} {w : World} : AllT P md ops Q S T n l a w [] := fun _ h => by cases h
theorem AllT.cons {i : Nat} {rs : List Nat} {o : Oper} {n : Nat} {l : Array Bool} {a : Act} {w : World} (ho : ops[i]? = some o)
    (h : ∀ K : Act → World → Prop, Shut (∀ a w, S w → (S w → AnyT P md ops Q S T n (l.setIfInBounds i true) a w) → K a w) → if Region.wanted o (yielded ops a.tmps) = true then Oper.wp P o a w K Q else K (a.put o.dst undef) w)
    (hs : AllT P md ops Q S T n l a w rs) : AllT P md ops Q S T n l a w (i :: rs) := fun j hj => by
  rcases List.mem_cons.1 hj with rfl | hj
  · exact wpOp_step ho (fun K hK => h K (fun a w hS hW => hK a w ⟨.inr hS, hW hS⟩))
  · exact hs j hj
/-- one of T: nothing is to be shown behind it -/
theorem AllT.consT {i : Nat} {rs : List Nat} {o : Oper} {n : Nat} {l : Array Bool} {a : Act} {w : World} (ho : ops[i]? = some o) (hi : i ∈ T)
    (h : ∀ K : Act → World → Prop, Shut (∀ a w, AnyT P md ops Q S T n (l.setIfInBounds i true) a w → K a w) → if Region.wanted o (yielded ops a.tmps) = true then Oper.wp P o a w K Q else K (a.put o.dst undef) w)
    (hs : AllT P md ops Q S T n l a w rs) : AllT P md ops Q S T n l a w (i :: rs) := fun j hj => by
  rcases List.mem_cons.1 hj with rfl | hj
  · exact wpOp_step ho (fun K hK => h K (fun a w hW => hK a w ⟨.inl hi, hW⟩))
  · exact hs j hj
theorem AnyT.ready {rs : List Nat} {n : Nat} {l : Array Bool} {a : Act} {w : World} (hr : Region.ready md ops l = rs) (hne : rs ≠ [])
    (h : AllT P md ops Q S T n l a w rs) : AnyT P md ops Q S T (n + 1) l a w := ⟨fun h0 => absurd (hr ▸ h0) hne, hr ▸ h⟩
theorem AnyT.done {l : Array Bool} {a : Act} {w : World} (hr : Region.ready md ops l = []) (h : Q .normal a w) : ∀ n, AnyT P md ops Q S T n l a w
  | 0 => ⟨hr, h⟩
  | _ + 1 => ⟨fun _ => h, by rw [hr]; simp⟩
theorem region_T {id : Nat} {a : Act} {w : World} (hm : P.follows .mixedOrders = true) (hS : S w.drew)
    (h : S w.drew → AnyT P .any ops Q S T ops.size (Array.replicate ops.size false) a w.drew) : (Code.region id ops true).wp P Q a w :=
  wp_region_any hm (AnyT.any _ _ _ _ (h hS))
end
end Go.Proofs.YtbhoeiopckmfhaaGreatDoor

namespace Go.Proofs.YtbhoeiopckmfhaaGreatDoor
open Go.RowKit Go.Maps
attribute [local irreducible] shaL

theorem TreeK.any {n0 : Nat} {X Y : List Nat} {w : World} {b : Nat} {M : List PairS} (h : TreeK n0 X w b M) (hY : ∀ y ∈ Y, y < n0) : TreeK n0 Y w b M := by
  obtain ⟨mv, h⟩ := h
  refine ⟨mv, h.blk, ⟨h.own.1, fun q => by have := hY _ q; have := h.own.1; omega⟩, ?_⟩
  rcases h.map with hm | ⟨mb, D, rfl, h1, h2, h3, h4⟩
  · exact .inl hm
  · exact .inr ⟨mb, D, rfl, h1, fun q => by have := hY _ q; omega, h3, h4⟩
def kvS (S : List StepS) : List PairS := S.map fun s => (s.k, s.v)
/-- the steps' own blocks -/
def stepBs (S : List StepS) : List Nat := S.flatMap fun s => ownT s.bv
theorem stepBs_mem {S : List StepS} {s : StepS} (h : s ∈ S) {g : Nat} (e : s.bv.ownBlock = some g) : g ∈ stepBs S := List.mem_flatMap.2 ⟨s, h, ownT_mem.2 e⟩
/-- in Make's loop -/
structure MkAt (w : World) (M : List PairS) (d b : Nat) (BB DB RB XB ub : Nat) (old : ByteArray) (S : List StepS) (sv : Value) (wr : World) : Prop where
  bb : wr.heap[BB]? = some (.cells #[.int .i64 b] 3 (0, 0))
  db : wr.heap[DB]? = some (.cells #[.int .i64 d] 3 (0, 0))
  rb : wr.heap[RB]? = some (.cells #[.int .i64 0, .int .i64 0, .string ⟨#[]⟩, .string ⟨#[]⟩, .slice none 0 0] 57 (0, 0))
  xb : wr.heap[XB]? = some (.cells #[.int .i64 b, .int .i64 d, .string old, .string ⟨#[]⟩, sv] 57 (0, 0))
  row : wr.ownsRow w.heap.size 148 6 sv S.length (stepsV d S)
  ok : StepsOk wr M d b S
  tree : TreeK w.heap.size (BB :: DB :: RB :: XB :: (ownT sv ++ stepBs S)) wr ub (putsM M (kvS S))
  g : w.grownBy wr none
  lt : w.heap.size ≤ BB ∧ w.heap.size ≤ DB ∧ w.heap.size ≤ RB ∧ w.heap.size ≤ XB
  nd : [BB, DB, RB, XB].Nodup
  far : ∀ g, sv.ownBlock = some g → g ∉ [BB, DB, RB, XB] ∧ g ∉ stepBs S
  sfar : ∀ g ∈ stepBs S, g ∉ [BB, DB, RB, XB] ∧ w.heap.size ≤ g
section
variable {w wr w' : World} {M : List PairS} {d b BB DB RB XB ub : Nat} {old : ByteArray} {S : List StepS} {sv : Value}
theorem MkAt.blts (h : MkAt w M d b BB DB RB XB ub old S sv wr) : ∀ x ∈ BB :: DB :: RB :: XB :: (ownT sv ++ stepBs S), x < wr.heap.size := by
  intro x hx
  simp only [List.mem_cons, List.mem_append] at hx
  rcases hx with rfl | rfl | rfl | rfl | hx | hx
  · exact (Array.getElem?_eq_some_iff.1 h.bb).1
  · exact (Array.getElem?_eq_some_iff.1 h.db).1
  · exact (Array.getElem?_eq_some_iff.1 h.rb).1
  · exact (Array.getElem?_eq_some_iff.1 h.xb).1
  · exact (h.row.lt x (ownT_mem.1 hx)).2
  · obtain ⟨s, hs, he⟩ := List.mem_flatMap.1 hx
    exact (h.ok.own s hs).lt x (ownT_mem.1 he)
/-- what turns but the tree's own blocks, none of these -/
theorem MkAt.grow (h : MkAt w M d b BB DB RB XB ub old S sv wr) (k : wr.grownBy w' none) : MkAt w M d b BB DB RB XB ub old S sv w' :=
  ⟨k.heap h.bb (by simp), k.heap h.db (by simp), k.heap h.rb (by simp), k.heap h.xb (by simp), own_turn h.row (Turn.of_grown (S := fun _ => False) k) (fun _ _ q => q), h.ok.grown k, h.tree.grown k, grownBy_trans h.g k, h.lt, h.nd, h.far, h.sfar⟩
/-- a step more -/
theorem MkAt.next {w1 w2 w4 : World} {CB : Nat} {k v : ByteArray} {bv : Value} {g4 c4 : Nat} {o : Obj} (hr : ShaReady w) (h : MkAt w M d b BB DB RB XB ub old S sv w1) (hkb : bandN k d = b) (hvs : v.size ≤ 1000)
    (hO : OwnP w2 bv (putsM M (kvS S)) k d) (hbn : ∀ g, bv.ownBlock = some g → w1.heap.size ≤ g) (hT : TreeK w.heap.size (ownT bv ++ (CB :: BB :: DB :: RB :: XB :: (ownT sv ++ stepBs S))) w2 ub (setM (putsM M (kvS S)) (k, v)))
    (t2 : Turn (rest w.heap.size (CB :: BB :: DB :: RB :: XB :: (ownT sv ++ stepBs S))) w1 w2)
    (hrow : w4.ownsRow w.heap.size 148 6 (.slice (some ⟨g4, 0, none⟩) (S.length + 1) c4) (S.length + 1) (stepsV d S ++ StepS.cells ⟨k, v, putsM M (kvS S), bv⟩ d))
    (hg4 : (w2.alloc o).grownBy w4 sv.ownBlock) (hor : sv.ownBlock = some g4 ∨ g4 = (w2.alloc o).heap.size) :
    MkAt w M d b BB DB RB XB ub old (S ++ [⟨k, v, putsM M (kvS S), bv⟩]) (.slice (some ⟨g4, 0, none⟩) (S.length + 1) c4) (w4.setCell ⟨XB, 4, none⟩ (.slice (some ⟨g4, 0, none⟩) (S.length + 1) c4)) := by
  have hlt := h.blts
  have hs2 := t2.size
  have hsa : (w2.alloc o).heap.size = w2.heap.size + 1 := by simp
  have t4 : Turn (fun i => sv.ownBlock = some i) w2 w4 := ((Turn.refl (fun i => sv.ownBlock = some i) w2).alloc o).row hg4 (fun i _ e => e)
  have t5 : Turn (fun i => i = XB) w4 (w4.setCell ⟨XB, 4, none⟩ (.slice (some ⟨g4, 0, none⟩) (S.length + 1) c4)) := (Turn.refl (fun i => i = XB) w4).setCell (fun _ => rfl) _ _
  have nd := h.nd
  simp only [List.nodup_cons, List.mem_cons, List.not_mem_nil, or_false, not_or, List.nodup_nil, and_true, not_false_eq_true] at nd
  obtain ⟨⟨n1, n2, n3⟩, ⟨n4, n5⟩, n6⟩ := nd
  have hfb : ∀ x ∈ [BB, DB, RB, XB], sv.ownBlock ≠ some x := fun x hx e => (h.far x e).1 hx
  have hb2 : ∀ x ∈ [BB, DB, RB, XB], ∀ oo, w1.heap[x]? = some oo → w4.heap[x]? = some oo := fun x hx oo hh => t4.heap (t2.inX (by simp at hx ⊢; omega) hh) (hfb x hx)
  have hgx : g4 ∉ [BB, DB, RB, XB] := by
    rcases hor with e | e
    · exact (h.far g4 e).1
    · intro q
      have := hlt g4 (by simp at q ⊢; omega)
      omega
  have hk5 : ∀ x, x ≠ XB → ∀ oo, w4.heap[x]? = some oo → (w4.setCell ⟨XB, 4, none⟩ (.slice (some ⟨g4, 0, none⟩) (S.length + 1) c4)).heap[x]? = some oo := fun x hx oo hh => t5.heap hh hx
  have ttot : Turn (rest w.heap.size []) w1 (w4.setCell ⟨XB, 4, none⟩ (.slice (some ⟨g4, 0, none⟩) (S.length + 1) c4)) := by
    refine ((rest_mono (fun y hy => by cases hy) t2).then (t4.mono (fun i _ e => ⟨?_, by simp⟩))).then (t5.mono (fun i _ e => ⟨?_, by simp⟩))
    · exact (h.row.lt i e).1
    · rw [e]; exact h.lt.2.2.2
  have hgr : w.grownBy (w4.setCell ⟨XB, 4, none⟩ (.slice (some ⟨g4, 0, none⟩) (S.length + 1) c4)) none := grownBy_below (ttot.bel (below_grownBy h.g) h.g.size)
  have hbnew : ∀ g, bv.ownBlock = some g → w1.heap.size ≤ g ∧ g < w2.heap.size := fun g e => ⟨hbn g e, hO.lt g e⟩
  have hr5 := hr.grown hgr
  have hown5 : ∀ s ∈ S, OwnP (w4.setCell ⟨XB, 4, none⟩ (.slice (some ⟨g4, 0, none⟩) (S.length + 1) c4)) s.bv s.M s.k d := fun s hs => by
    have q0 := h.ok.own s hs
    obtain ⟨B, hB⟩ := q0.row
    refine ⟨⟨B, own_turn (own_turn (own_turn hB t2 (fun g e q => q.2 (by simp [stepBs_mem hs e]))) t4 (fun g e q => (h.far g q).2 (stepBs_mem hs e))) t5 (fun g e q => ?_)⟩, hr5, q0.plain, q0.vals, q0.one, q0.k16, q0.d128⟩
    exact (h.sfar g (stepBs_mem hs e)).1 (by rw [q]; simp)
  have hown6 : OwnP (w4.setCell ⟨XB, 4, none⟩ (.slice (some ⟨g4, 0, none⟩) (S.length + 1) c4)) bv (putsM M (kvS S)) k d := by
    obtain ⟨B, hB⟩ := hO.row
    refine ⟨⟨B, own_turn (own_turn hB t4 (fun g e q => ?_)) t5 (fun g e q => ?_)⟩, hr5, hO.plain, hO.vals, hO.one, hO.k16, hO.d128⟩
    · have := hlt g (by simp [ownT_mem.2 q]); have := hbnew g e; omega
    · have := hlt XB (by simp); have := hbnew g e; omega
  have hbs : ∀ x, x ∈ stepBs (S ++ [⟨k, v, putsM M (kvS S), bv⟩]) ↔ x ∈ stepBs S ∨ bv.ownBlock = some x := fun x => by
    unfold stepBs
    rw [List.flatMap_append, List.mem_append]
    simp [ownT_mem]
  have hkv : kvS (S ++ [⟨k, v, putsM M (kvS S), bv⟩]) = kvS S ++ [(k, v)] := by simp [kvS]
  refine ⟨hk5 BB n3 _ (hb2 BB (by simp) _ h.bb), hk5 DB n5 _ (hb2 DB (by simp) _ h.db), hk5 RB n6 _ (hb2 RB (by simp) _ h.rb), heap_setCell (hb2 XB (by simp) _ h.xb) 4 _, ?_, ⟨?_, ?_, ?_, ?_⟩, ?_, hgr, h.lt, h.nd, ?_, ?_⟩
  · rw [List.length_append, List.length_singleton, stepsV_append, stepsV_one]
    exact own_turn hrow t5 (fun g e q => hgx (by have h1 : g4 = g := by simpa [Value.ownBlock] using e
                                                 rw [h1, q]; simp))
  · intro i hi
    rw [List.length_append, List.length_singleton] at hi
    rcases Nat.lt_or_ge i S.length with h1 | h1
    · rw [List.getElem_append_left h1, List.take_append_of_le_length (Nat.le_of_lt h1)]
      exact h.ok.m i h1
    · have h2 : i = S.length := by omega
      subst h2
      rw [List.getElem_append_right (Nat.le_refl _), List.take_append_of_le_length (Nat.le_refl _), List.take_length]
      simp [kvS]
  · intro s hs
    rcases List.mem_append.1 hs with q | q
    · exact hown5 s q
    · rw [List.mem_singleton.1 q]; exact hown6
  · intro s hs
    rcases List.mem_append.1 hs with q | q
    · exact h.ok.band s q
    · rw [List.mem_singleton.1 q]; exact hkb
  · intro s hs
    rcases List.mem_append.1 hs with q | q
    · exact h.ok.vals s q
    · rw [List.mem_singleton.1 q]; exact hvs
  · rw [hkv, putsM_snoc]
    refine TreeK.turn (TreeK.turn hT t4 (fun i _ e => by simp [ownT_mem.2 e]) (Y := g4 :: (ownT bv ++ (CB :: BB :: DB :: RB :: XB :: (ownT sv ++ stepBs S)))) (fun i hi => ?_)) t5 (fun i _ e => by rw [e]; simp) (fun i hi => .inl ?_)
    · rcases List.mem_cons.1 hi with rfl | hi
      · rcases hor with e | e
        · exact .inl (by simp [ownT_mem.2 e])
        · exact .inr (by omega)
      · exact .inl hi
    · simp only [List.mem_cons, List.mem_append, hbs, ownT_mem] at hi ⊢
      rcases hi with hi | hi | hi | hi | hi | hi | hi
      · simp [hi]
      · simp [hi]
      · simp [hi]
      · simp [hi]
      · left; simpa [Value.ownBlock] using hi.symm
      · simp [hi]
      · simp [hi]
  · intro g e
    have h1 : g4 = g := by simpa [Value.ownBlock] using e
    subst h1
    refine ⟨hgx, fun q => ?_⟩
    rcases (hbs g4).1 q with q | q
    · rcases hor with e | e
      · exact (h.far g4 e).2 q
      · have := hlt g4 (by simp [q]); omega
    · have h3 := hbnew g4 q
      rcases hor with e | e
      · have := hlt g4 (by simp [ownT_mem.2 e]); omega
      · omega
  · intro g hg
    rcases (hbs g).1 hg with q | q
    · exact h.sfar g q
    · have h3 := hbnew g q
      refine ⟨fun q2 => ?_, by have := h.g.size; omega⟩
      have := hlt g (by simp at q2 ⊢; omega)
      omega
end
end Go.Proofs.YtbhoeiopckmfhaaGreatDoor

namespace Go.Proofs.YtbhoeiopckmfhaaGreatDoor
open Go.RowKit Go.Shelf
attribute [local irreducible] shaL

theorem nodesB_few (M : List PairS) (d : Nat) : ∀ s ∈ nodesB M d, s.size ≤ 1000 := by
  intro s hs
  obtain ⟨b, _, rfl⟩ := List.mem_map.1 hs
  have := (nodeN_node (128 - d) (bandS M d b) d).size
  omega
theorem pow_succ2B (k : Nat) : 2 ^ (k + 1) = 2 * 2 ^ k := by rw [Nat.pow_succ, Nat.mul_comm]
def lenV : Value → Nat
  | .slice _ n _ => n
  | _ => 0
set_option maxRecDepth 100000 in
set_option maxHeartbeats 2000000 in
theorem broot_any (B : Nat) (v : Value) (M : List PairS) (d : Nat) (w : World) (hr : ShaReady w) (hO : w.ownsRow B 9 1 v (2 ^ d) (strsV (nodesB M d))) (hd : d ≤ 4) :
    Calls Tryz.prog 33 #[v, .int .i64 d] w fun e w' => e = .returned (.tuple #[.string (nodeN 128 M 0), .int .i64 0]) ∧ Below w.heap.size w w' := by
  have HC := Lib.hid (fun w' => bcount_in d hd w')
  have hpos : ∀ k, 0 < 2 ^ k := fun k => Nat.pow_pos (by decide)
  have hle : 2 ^ d ≤ 2 ^ 4 := Nat.pow_le_pow_right (by decide) hd
  have HP := Lib.hid (hpos d)
  have HJ : Hid (∀ (k Bk g cap : Nat) (wr : World), k + 1 ≤ d → Below w.heap.size w wr → wr.ownsRow Bk 9 1 (.slice (some ⟨g, 0, none⟩) (2 ^ (k + 1)) cap) (2 ^ (k + 1)) (strsV (nodesB M (k + 1))) →
      Calls Tryz.prog 75 #[.slice (some ⟨g, 0, none⟩) (2 ^ (k + 1) : Nat) cap] wr fun e w' => ∃ u, e = .returned u ∧ w'.ownsRow (wr.heap.size + 3) 9 1 u (2 ^ k) (strsV (nodesB M k)) ∧ Below wr.heap.size wr w') := by
    intro k Bk g cap wr hk hB hO
    have hst := strs_own hO
    have hcap : 2 ^ (k + 1) ≤ cap ∧ g < wr.heap.size := by
      rcases hO.2 with ⟨_, h0⟩ | ⟨g', cap', cur, e, _, hgb, h1, _⟩
      · have := hpos (k + 1); omega
      · injection e with e1 e2 e3
        injection e1 with e1
        injection e1 with e4 e5
        subst e4; subst e3
        exact ⟨h1, (Array.getElem?_eq_some_iff.1 hgb).1⟩
    have hk4 : 2 ^ k ≤ 2 ^ 4 := Nat.pow_le_pow_right (by decide) (by omega)
    have hj := joined_any g 0 (2 ^ k) cap (nodesB M (k + 1)) wr (hr.grown (grownBy_below hB)) (hpos k) (by omega) (by rw [← pow_succ2B]; exact hcap.1) (by rw [nodesB_len, pow_succ2B]) (by rw [← pow_succ2B]; exact hst) (nodesB_few M (k + 1)) hcap.2
    rw [nodes_join M k (by omega), ← pow_succ2B] at hj
    exact hj
  obtain ⟨N, hN⟩ : ∃ N, 2 ^ d = N := ⟨_, rfl⟩
  have hlv : ∃ a c, v = .slice a N c := by
    rw [← hN]
    obtain ⟨a, c, e⟩ := slice_own' hO
    exact ⟨a, c, e⟩
  obtain ⟨va, vc, rfl⟩ := hlv
  have HO := Lib.hid hO
  rw [hN] at HC HP
  have hp0 : ((N : Int) == 0) = false := beq_eq_false_iff_ne.2 (by have := HP.out; omega)
  have HN := Lib.hid hN
  clear hO hN hle hpos hr
  go_enter Tryz.func33, Tryz.ntmps33
  go_wp2_with fail
  refine (HC.out _).mono ?_
  rintro e w1 ⟨rfl, rfl⟩
  go_wp2_with fail
  refine (HC.out _).mono ?_
  rintro e w1 ⟨rfl, rfl⟩
  go_wp2_with fail
  go_loopw [0] (fun lv wr => ∃ k Bk : Nat, k ≤ d ∧ Hid (wr.ownsRow Bk 9 1 lv (2 ^ k) (strsV (nodesB M k))) ∧ Hid (Below w.heap.size w wr)) (fun lv _ => lenV lv)
  case atStart => exact ⟨d, B, Nat.le_refl _, HO.out, Below.refl _ _⟩
  case round =>
    obtain ⟨k, Bk, hk, HO1, HB⟩ := hrel
    have hkp : 0 < 2 ^ k := Nat.pow_pos (by decide)
    have hk4 : 2 ^ k ≤ 2 ^ 4 := Nat.pow_le_pow_right (by decide) (by omega)
    obtain ⟨a, cap, rfl⟩ := slice_own' HO1.out
    obtain ⟨g, rfl⟩ : ∃ g, a = some ⟨g, 0, none⟩ := by
      rcases HO1.out.2 with ⟨_, h0⟩ | ⟨g', cap', cur, e, _⟩
      · omega
      · injection e with e1
        exact ⟨g', e1⟩
    cases k with
    | zero =>
      have c0 : wr.cell? ⟨g, 0, none⟩ = some (.string (nodeN 128 M 0)) := by
        have hO := HO1.out
        rw [nodes_root] at hO
        obtain ⟨a', c', e, hh⟩ := strs_own (L := [nodeN 128 M 0]) hO
        obtain ⟨g', o', rfl, h1⟩ := hh 0 (by simp)
        injection e with e1 e2 e3
        injection e1 with e1
        injection e1 with e4 e5
        subst e4; subst e5
        exact h1
      clear HJ HC
      go_wp2_with fail
      go_returns
      exact ⟨rfl, HB.out⟩
    | succ k =>
      have HJ2 := HJ.out k Bk g cap wr hk HB.out HO1.out
      have hlt : 2 ^ k < 2 ^ (k + 1) := by have := pow_succ2B k; have : 0 < 2 ^ k := Nat.pow_pos (by decide); omega
      have hN1 : 1 < 2 ^ (k + 1) := by have : 0 < 2 ^ k := Nat.pow_pos (by decide); omega
      obtain ⟨N2, hN2⟩ : ∃ N2, 2 ^ (k + 1) = N2 := ⟨_, rfl⟩
      rw [hN2] at HJ2 hN1 hlt hk4 ⊢
      have HJ3 := Lib.hid HJ2
      have e1 : (1 : Int) < (N2 : Int) := by omega
      have e2 : (N2 : Int) > 1 := by omega
      clear HJ HC HJ2
      go_wp2_with fail
      refine HJ3.out.mono ?_
      rintro e w2 ⟨u, rfl, hO2, hB2⟩
      have HO2 := Lib.hid hO2
      have HB2 := Lib.hid (HB.out.trans (hB2.mono HB.out.size))
      obtain ⟨a2, c2, rfl⟩ := slice_own' hO2
      clear hO2 hB2
      go_wp2_with fail
      go_roundw
      case rel => exact ⟨k, _, by omega, HO2.out, HB2.out⟩
      case measure => simp [lenV]; omega
end Go.Proofs.YtbhoeiopckmfhaaGreatDoor
