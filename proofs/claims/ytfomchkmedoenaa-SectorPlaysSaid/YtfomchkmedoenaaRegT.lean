/- A region that draws its order and stores, last of all, into cells that it reads: what is held need not hold behind the stores that wait for all else (T). No walk, nothing of the program. -/
import Derived.Deep.RegionHeld
namespace Go.Proofs.Ytfomchkmedoenaa
open Go

section
variable {P : Program} {ops : Array Oper} {Q : Exit → Act → World → Prop} {md : Region.Mode} {S : World → Prop} {T : List Nat}
/-- whatever order: S holds behind each but those of T -/
def AnyT (P : Program) (md : Region.Mode) (ops : Array Oper) (Q : Exit → Act → World → Prop) (S : World → Prop) (T : List Nat) : Nat → Array Bool → Act → World → Prop
  | 0, l, a, w => Region.ready md ops l = [] ∧ Q .normal a w
  | n + 1, l, a, w => (Region.ready md ops l = [] → Q .normal a w) ∧ ∀ i ∈ Region.ready md ops l, wpOp P ops Q i (fun a' w' => (i ∈ T ∨ S w') ∧ AnyT P md ops Q S T n (l.setIfInBounds i true) a' w') a w
theorem AnyT.any : ∀ (n : Nat) (l : Array Bool) (a : Act) (w : World), AnyT P md ops Q S T n l a w → wpAny P md ops Q n l a w
  | 0, _, _, _, h => h
  | n + 1, l, a, w, h => ⟨h.1, fun i hi => wpOp_mono (fun a' w' q => AnyT.any n _ a' w' q.2) (h.2 i hi)⟩
/-- what has come up had all that it waits for behind it -/
def DownT (md : Region.Mode) (ops : Array Oper) (l : Array Bool) : Prop := ∀ (k : Nat) (o : Oper), ops[k]? = some o → l.getD k false = true → ∀ e ∈ o.after, Region.binds md e = true → l.getD e.on false = true
def downB (md : Region.Mode) (ops : Array Oper) (l : Array Bool) : Bool := (List.range ops.size).all fun k => !(l.getD k false) || (match ops[k]? with
  | some o => o.after.all fun e => !(Region.binds md e) || l.getD e.on false
  | none => true)
theorem downB_spec {l : Array Bool} (h : downB md ops l = true) : DownT md ops l := by
  intro k o ho hk e he hb
  have hlt : k < ops.size := (Array.getElem?_eq_some_iff.1 ho).1
  have h1 := List.all_eq_true.1 h k (List.mem_range.2 hlt)
  rw [hk, ho] at h1
  simp only [Bool.not_true, Bool.false_or] at h1
  have h2 := (Array.all_eq_true_iff_forall_mem.1 h1) e he
  rw [hb] at h2
  simpa using h2
theorem DownT.set {l : Array Bool} (h : DownT md ops l) {j : Nat} (hj : j ∈ Region.ready md ops l) : DownT md ops (l.setIfInBounds j true) := by
  intro k o ho hk e he hb
  rcases Nat.decEq j k with hjk | hjk
  · rw [getD_set_ne false hjk] at hk
    exact getD_set_true (h k o ho hk e he hb)
  · subst hjk
    obtain ⟨_, o', ho', hall⟩ := mem_ready.1 hj
    rw [ho] at ho'
    cases ho'
    exact getD_set_true (hall e he hb)
/-- does number j wait for number i, by way of others? -/
def reachB (md : Region.Mode) (ops : Array Oper) (i : Nat) : Nat → Nat → Bool
  | 0, _ => false
  | f + 1, j => match ops[j]? with
    | some o => o.after.any fun e => Region.binds md e && (e.on == i || reachB md ops i f e.on)
    | none => false
theorem reach_listed {l : Array Bool} (hD : DownT md ops l) {i : Nat} : ∀ (f j : Nat), reachB md ops i f j = true → (l.getD j false = true ∨ j ∈ Region.ready md ops l) → l.getD i false = true
  | 0, _, h, _ => by cases h
  | f + 1, j, h, hj => by
    rw [reachB] at h
    cases ho : ops[j]? with
    | none => rw [ho] at h; cases h
    | some o =>
      rw [ho] at h
      obtain ⟨e, he, hb⟩ := Array.any_eq_true'.1 h
      rw [Bool.and_eq_true, Bool.or_eq_true] at hb
      have hl : l.getD e.on false = true := by
        rcases hj with hj | hj
        · exact hD j o ho hj e he hb.1
        · obtain ⟨_, o', ho', hall⟩ := mem_ready.1 hj
          rw [ho] at ho'
          cases ho'
          exact hall e he hb.1
      rcases hb.2 with hi | hi
      · have : e.on = i := by simpa using hi
        rw [← this]; exact hl
      · exact reach_listed hD f e.on hi (.inl hl)
/-- those of T wait for number i -/
def waitsT (md : Region.Mode) (ops : Array Oper) (T : List Nat) (i : Nat) : Bool := T.all fun j => reachB md ops i ops.size j
theorem AnyT.first {i : Nat} {oi : Oper} {v : Value} (hi : ops[i]? = some oi) (hsel : ∀ (j : Nat) (o : Oper) cs b, ops[j]? = some o → o.op ≠ .select cs b)
    (hQ : ∀ c a w, Q (.panic c) (a.put oi.dst v) w → Q (.panic c) a w) (hT : waitsT md ops T i = true) :
    ∀ (n : Nat) (l : Array Bool) (a : Act) (w : World), DownT md ops l →
      (∀ j oj, ops[j]? = some oj → j ≠ i → l.getD j true = false → (∀ e ∈ oj.after, Region.binds md e = true → e.on ≠ i) → oi.apart ops oj = true) →
      i ∈ Region.ready md ops l → YieldsIf P ops S oi v a → S w →
      AnyT P md ops Q S T n (l.setIfInBounds i true) (a.put oi.dst v) w → AnyT P md ops Q S T (n + 1) l a w := by
  intro n
  induction n with
  | zero =>
    intro l a w _ _ hr hy hS H
    refine ⟨fun h => (by rw [h] at hr; cases hr), fun j hj => ?_⟩
    rcases Nat.decEq j i with hji | hji
    · exact absurd (H.1 ▸ ready_mono hj hji) (by simp)
    · subst hji
      exact hy.wpOp hi hS ⟨.inr hS, H⟩
  | succ n ih =>
    intro l a w hD hfree hr hy hS H
    refine ⟨fun h => (by rw [h] at hr; cases hr), fun j hj => ?_⟩
    rcases Nat.decEq j i with hji | hji
    case isTrue =>
      subst hji
      exact hy.wpOp hi hS ⟨.inr hS, H⟩
    have h1 := H.2 j (ready_mono hj hji)
    obtain ⟨hjun, oj, hoj, hall⟩ := mem_ready.1 hj
    have hnot : ∀ e ∈ oj.after, Region.binds md e = true → e.on ≠ i := by
      intro e he hb heq
      have q1 := hall e he hb
      have q0 := (mem_ready.1 hr).1
      rw [heq] at q1
      rcases Nat.lt_or_ge i l.size with h' | h'
      · simp [h'] at q0 q1; rw [q0] at q1; cases q1
      · simp [Array.getElem?_eq_none h'] at q1
    have hjT : j ∉ T := by
      intro hj2
      have q := reach_listed hD _ j (List.all_eq_true.1 hT j hj2) (.inr hj)
      have q0 := (mem_ready.1 hr).1
      rcases Nat.lt_or_ge i l.size with h' | h'
      · simp [h'] at q0 q; rw [q0] at q; cases q
      · simp [Array.getElem?_eq_none h'] at q
    have h2 := wpOp_putIf hoj (hfree j oj hoj hji hjun hnot) (fun cs b => hsel i oi cs b hi) (fun cs b => hsel j oj cs b hoj) hQ hy h1
    refine wpOp_mono (fun a' w' q => ?_) h2
    have hS' : S w' := q.2.1.resolve_left hjT
    refine ⟨.inr hS', ih (l.setIfInBounds j true) a' w' (hD.set hj) (fun k ok hk hki hun hno => hfree k ok hk hki ?_ hno) (ready_mono hr (Ne.symm hji)) q.1 hS' ?_⟩
    · rcases Nat.decEq j k with hjk | hjk
      · rwa [getD_set_ne true hjk] at hun
      · subst hjk; exact hjun
    · rw [Array.setIfInBounds_comm _ _ hji]
      exact q.2.2
theorem AnyT.take {i : Nat} {oi : Oper} {v : Value} {n : Nat} {l : Array Bool} {a : Act} {w : World} (hi : ops[i]? = some oi)
    (hs : Region.noSelect ops = true) (hT : waitsT md ops T i = true) (hD : downB md ops l = true) (hf : Region.free md ops l i = true) (hr : (Region.ready md ops l).contains i = true)
    (hQ : ∀ c a w, Q (.panic c) (a.put oi.dst v) w → Q (.panic c) a w) (hy : YieldsIf P ops S oi v a) (hS : S w)
    (h : AnyT P md ops Q S T n (l.setIfInBounds i true) (a.put oi.dst v) w) : AnyT P md ops Q S T (n + 1) l a w :=
  AnyT.first hi (Region.noSelect_spec hs) hQ hT n l a w (downB_spec hD) (Region.free_spec hi hf) (by simpa using hr) hy hS h
/-- each of a list of those that may come up now -/
def AllT (P : Program) (md : Region.Mode) (ops : Array Oper) (Q : Exit → Act → World → Prop) (S : World → Prop) (T : List Nat) (n : Nat) (l : Array Bool) (a : Act) (w : World) (rs : List Nat) : Prop :=
  ∀ i ∈ rs, wpOp P ops Q i (fun a' w' => (i ∈ T ∨ S w') ∧ AnyT P md ops Q S T n (l.setIfInBounds i true) a' w') a w
theorem AllT.nil {n : Nat} {l : Array Bool} {a : Act} {w : World} : AllT P md ops Q S T n l a w [] := fun _ h => by cases h
theorem AllT.cons {i : Nat} {rs : List Nat} {o : Oper} {n : Nat} {l : Array Bool} {a : Act} {w : World} (ho : ops[i]? = some o)
    (h : ∀ K : Act → World → Prop, Shut (∀ a w, S w → (S w → AnyT P md ops Q S T n (l.setIfInBounds i true) a w) → K a w) → if Region.wanted o (yielded ops a.tmps) = true then Oper.wp P o a w K Q else K (a.put o.dst undef) w)
    (hs : AllT P md ops Q S T n l a w rs) : AllT P md ops Q S T n l a w (i :: rs) := fun j hj => by
  rcases List.mem_cons.1 hj with rfl | hj
  · exact wpOp_step ho (fun K hK => h K (fun a w hS hW => hK a w ⟨.inr hS, hW hS⟩))
  · exact hs j hj
/-- one of T: nothing is to be shown behind it -/
theorem AllT.consT {i : Nat} {rs : List Nat} {o : Oper} {n : Nat} {l : Array Bool} {a : Act} {w : World} (ho : ops[i]? = some o) (hi : i ∈ T)
    (h : ∀ K : Act → World → Prop, Shut (∀ a w, AnyT P md ops Q S T n (l.setIfInBounds i true) a w → K a w) → if Region.wanted o (yielded ops a.tmps) = true then Oper.wp P o a w K Q else K (a.put o.dst undef) w)
    (hs : AllT P md ops Q S T n l a w rs) : AllT P md ops Q S T n l a w (i :: rs) := fun j hj => by
  rcases List.mem_cons.1 hj with rfl | hj
  · exact wpOp_step ho (fun K hK => h K (fun a w hW => hK a w ⟨.inl hi, hW⟩))
  · exact hs j hj
theorem AnyT.ready {rs : List Nat} {n : Nat} {l : Array Bool} {a : Act} {w : World} (hr : Region.ready md ops l = rs) (hne : rs ≠ [])
    (h : AllT P md ops Q S T n l a w rs) : AnyT P md ops Q S T (n + 1) l a w := ⟨fun h0 => absurd (hr ▸ h0) hne, hr ▸ h⟩
theorem AnyT.done {l : Array Bool} {a : Act} {w : World} (hr : Region.ready md ops l = []) (h : Q .normal a w) : ∀ n, AnyT P md ops Q S T n l a w
  | 0 => ⟨hr, h⟩
  | _ + 1 => ⟨fun _ => h, by rw [hr]; simp⟩
theorem region_T {id : Nat} {a : Act} {w : World} (hm : P.follows .mixedOrders = true) (hS : S w.drew)
    (h : S w.drew → AnyT P .any ops Q S T ops.size (Array.replicate ops.size false) a w.drew) : (Code.region id ops true).wp P Q a w :=
  wp_region_any hm (AnyT.any _ _ _ _ (h hS))
end
end Go.Proofs.Ytfomchkmedoenaa
