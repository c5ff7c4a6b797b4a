/- A region that draws its order and stores at its end into what it read: what is read holds till the first of the stores comes up; an operation that yields in each such world is taken first. No condition. -/
import Derived.Test.YtgbkpkioijbgoaaDoorRegSeq
namespace Go.Proofs.YtgbkpkioijbgoaaDoor
open Go.RowKit
set_option linter.unusedVariables false

section
variable {P : Program} {ops : Array Oper} {Q : Exit → Act → World → Prop} {md : Region.Mode} {S : World → Prop} {t : Nat}
/-- in whatever order, and S is shown behind each operation till number t has come up -/
def Till (P : Program) (md : Region.Mode) (ops : Array Oper) (Q : Exit → Act → World → Prop) (S : World → Prop) (t : Nat) : Nat → Array Bool → Act → World → Prop
  | 0, up, a, w => Region.ready md ops up = [] ∧ Q .normal a w
  | n + 1, up, a, w => (Region.ready md ops up = [] → Q .normal a w) ∧
    ∀ i ∈ Region.ready md ops up, wpOp P ops Q i (fun a' w' => ((up.setIfInBounds i true).getD t false = false → S w') ∧ Till P md ops Q S t n (up.setIfInBounds i true) a' w') a w
theorem Till.any : ∀ (n : Nat) (up : Array Bool) (a : Act) (w : World), Till P md ops Q S t n up a w → wpAny P md ops Q n up a w
  | 0, _, _, _, h => h
  | n + 1, _, _, _, h => ⟨h.1, fun i hi => wpOp_mono (fun a' w' k => Till.any n _ a' w' k.2) (h.2 i hi)⟩
theorem till_off {up : Array Bool} {j : Nat} (hj : j ≠ t) (h : up.getD t true = false) : (up.setIfInBounds j true).getD t true = false := by
  rw [getD_set_ne true hj]; exact h
theorem till_off2 {up : Array Bool} (h : up.getD t true = false) : up.getD t false = false := by
  rcases Nat.lt_or_ge t up.size with h' | h'
  · simp [h'] at h ⊢; exact h
  · simp [Array.getElem?_eq_none h'] at h
/-- with an operation all that it waits for has come up -/
def UpOk (md : Region.Mode) (ops : Array Oper) (up : Array Bool) : Prop := ∀ j oj, ops[j]? = some oj → up.getD j false = true → ∀ e ∈ oj.after, Region.binds md e = true → up.getD e.on false = true
theorem UpOk.set {up : Array Bool} (h : UpOk md ops up) {i : Nat} (hi : i ∈ Region.ready md ops up) : UpOk md ops (up.setIfInBounds i true) := by
  obtain ⟨_, oi, hoi, hall⟩ := mem_ready.1 hi
  intro j oj hj hl e he hb
  by_cases hij : i = j
  · subst hij
    have : oj = oi := Option.some.inj (hj.symm.trans hoi)
    subst this
    exact getD_set_true (hall e he hb)
  · rw [getD_set_ne false hij] at hl
    exact getD_set_true (h j oj hj hl e he hb)
def upOkB (md : Region.Mode) (ops : Array Oper) (up : Array Bool) : Bool := (List.range ops.size).all fun j => !up.getD j false || match ops[j]? with
  | some o => o.after.all fun e => !Region.binds md e || up.getD e.on false
  | none => true
theorem upOkB_spec {up : Array Bool} (h : upOkB md ops up = true) : UpOk md ops up := by
  intro j oj hj hl e he hb
  unfold upOkB at h
  rw [List.all_eq_true] at h
  have hjs : j < ops.size := (Array.getElem?_eq_some_iff.1 hj).1
  have h1 := h j (List.mem_range.2 hjs)
  rw [hl, hj] at h1
  simp only [Bool.not_true, Bool.false_or] at h1
  rw [Array.all_eq_true'] at h1
  have h2 := h1 e he
  rw [hb] at h2
  simpa using h2
/-- number j waits for number i, itself or through others -/
def waitsB (md : Region.Mode) (ops : Array Oper) (i : Nat) : Nat → Nat → Bool
  | 0, _ => false
  | f + 1, j => match ops[j]? with
    | some o => o.after.any fun e => Region.binds md e && (e.on == i || waitsB md ops i f e.on)
    | none => false
theorem waitsB_up {up : Array Bool} (h : UpOk md ops up) {i : Nat} : ∀ (f j : Nat), waitsB md ops i f j = true → up.getD j false = true → up.getD i false = true
  | 0, _, hw, _ => by cases hw
  | f + 1, j, hw, hu => by
    rw [waitsB] at hw
    cases ho : ops[j]? with
    | none => rw [ho] at hw; cases hw
    | some o =>
      rw [ho] at hw
      obtain ⟨e, he, hb⟩ := Array.any_eq_true'.1 hw
      simp only [Bool.and_eq_true, Bool.or_eq_true, beq_iff_eq] at hb
      have h1 := h j o ho hu e he hb.1
      rcases hb.2 with h2 | h2
      · rw [← h2]; exact h1
      · exact waitsB_up h f e.on h2 h1
theorem waitsB_ready {up : Array Bool} (h : UpOk md ops up) {i f j : Nat} (hw : waitsB md ops i f j = true) (hj : j ∈ Region.ready md ops up) : up.getD i false = true := by
  obtain ⟨_, oj, hoj, hall⟩ := mem_ready.1 hj
  cases f with
  | zero => cases hw
  | succ f =>
    rw [waitsB, hoj] at hw
    obtain ⟨e, he, hb⟩ := Array.any_eq_true'.1 hw
    simp only [Bool.and_eq_true, Bool.or_eq_true, beq_iff_eq] at hb
    have h1 := hall e he hb.1
    rcases hb.2 with h2 | h2
    · rw [← h2]; exact h1
    · exact waitsB_up h f e.on h2 h1
/-- an operation that yields in every world of S, and that number t waits for, is taken first -/
theorem Till.first {i : Nat} {oi : Oper} {v : Value} (hi : ops[i]? = some oi) (hsel : ∀ (j : Nat) (o : Oper) cs b, ops[j]? = some o → o.op ≠ .select cs b)
    (hQ : ∀ c a w, Q (.panic c) (a.put oi.dst v) w → Q (.panic c) a w) (hti : t ≠ i) {f : Nat} (hwait : waitsB md ops i f t = true) :
    ∀ (n : Nat) (up : Array Bool) (a : Act) (w : World),
      (∀ j oj, ops[j]? = some oj → j ≠ i → up.getD j true = false → (∀ e ∈ oj.after, Region.binds md e = true → e.on ≠ i) → oi.apart ops oj = true) →
      i ∈ Region.ready md ops up → UpOk md ops up → up.getD t true = false → YieldsIf P ops S oi v a → S w →
      Till P md ops Q S t n (up.setIfInBounds i true) (a.put oi.dst v) w → Till P md ops Q S t (n + 1) up a w := by
  intro n
  induction n with
  | zero =>
    intro up a w _ hr hok ht hy hS H
    refine ⟨fun h => (by rw [h] at hr; cases hr), fun j hj => ?_⟩
    by_cases hji : j = i
    · subst hji; exact hy.wpOp hi hS ⟨fun _ => hS, H⟩
    · have := ready_mono hj hji
      rw [H.1] at this
      cases this
  | succ n ih =>
    intro up a w hfree hr hok ht hy hS H
    refine ⟨fun h => (by rw [h] at hr; cases hr), fun j hj => ?_⟩
    by_cases hji : j = i
    · subst hji; exact hy.wpOp hi hS ⟨fun _ => hS, H⟩
    · have h1 := H.2 j (ready_mono hj hji)
      obtain ⟨hjun, oj, hoj, hall⟩ := mem_ready.1 hj
      have hnot : ∀ e ∈ oj.after, Region.binds md e = true → e.on ≠ i := fun e he hb heq => by
        have h1 := hall e he hb
        have h0 := (mem_ready.1 hr).1
        rw [heq] at h1
        rcases Nat.lt_or_ge i up.size with h' | h'
        · simp [h'] at h0 h1; rw [h0] at h1; cases h1
        · simp [Array.getElem?_eq_none h'] at h1
      have hjt : j ≠ t := fun e => by
        subst e
        have h1 := waitsB_ready hok hwait hj
        have h0 := (mem_ready.1 hr).1
        rcases Nat.lt_or_ge i up.size with h' | h'
        · simp [h'] at h0 h1; rw [h0] at h1; cases h1
        · simp [Array.getElem?_eq_none h'] at h1
      have ht2 := till_off hjt ht
      have h2 := wpOp_putIf (S := S) hoj (hfree j oj hoj hji hjun hnot) (fun cs b => hsel i oi cs b hi) (fun cs b => hsel j oj cs b hoj) hQ hy h1
      refine wpOp_mono (fun a' w' h3 => ?_) h2
      have hSw : S w' := h3.2.1 (by
        rw [Array.setIfInBounds_comm _ _ (Ne.symm hji)]
        exact till_off2 (till_off (Ne.symm hti) ht2))
      refine ⟨fun _ => hSw, ih (up.setIfInBounds j true) a' w' ?_ (ready_mono hr (Ne.symm hji)) (hok.set hj) ht2 h3.1 hSw ?_⟩
      · intro k ok hk hki hun hno
        refine hfree k ok hk hki ?_ hno
        by_cases hjk : j = k
        · subst hjk; exact hjun
        · rw [getD_set_ne true hjk] at hun; exact hun
      · rw [Array.setIfInBounds_comm _ _ hji]
        exact h3.2.2
theorem till_t {i d : Nat} {oi : Oper} {v : Value} {n : Nat} {up : Array Bool} {a : Act} {w : World} (hi : ops[i]? = some oi) (hd : oi.dst = some d)
    (hs : Region.noSelect ops = true) (hf : Region.free md ops up i = true) (hr : (Region.ready md ops up).contains i = true) (hti : (decide (t ≠ i) && waitsB md ops i 5 t && upOkB md ops up && !up.getD t true) = true)
    (hw : Region.wanted oi (yielded ops a.tmps) = true) (hv : ∀ w, S w → (execOp a.eval oi).run P w = .ok (.value v) w) (hS : S w)
    (h : Till P md ops (NoPanic Q) S t n (up.setIfInBounds i true) (a.put (some d) v) w) : Till P md ops (NoPanic Q) S t (n + 1) up a w := by
  simp only [Bool.and_eq_true, decide_eq_true_eq, Bool.not_eq_true'] at hti
  exact Till.first hi (Region.noSelect_spec hs) (fun _ _ _ h => h) hti.1.1.1 hti.1.1.2 n up a w (Region.free_spec hi hf) (by simpa using hr) (upOkB_spec hti.1.2) hti.2 (Or.inl ⟨hw, hv⟩) hS (by rw [hd]; exact h)
/-- each of these may come up next -/
def TillReady (P : Program) (md : Region.Mode) (ops : Array Oper) (Q : Exit → Act → World → Prop) (S : World → Prop) (t n : Nat) (up : Array Bool) (a : Act) (w : World) (rs : List Nat) : Prop :=
  ∀ i ∈ rs, wpOp P ops Q i (fun a' w' => ((up.setIfInBounds i true).getD t false = false → S w') ∧ Till P md ops Q S t n (up.setIfInBounds i true) a' w') a w
theorem TillReady.nil {n : Nat} {up : Array Bool} {a : Act} {w : World} : TillReady P md ops Q S t n up a w [] := fun _ h => by cases h
theorem TillReady.cons {n : Nat} {up : Array Bool} {a : Act} {w : World} {i : Nat} {o : Oper} {rs : List Nat} (ho : ops[i]? = some o)
    (h : ∀ K' : Act → World → Prop, Shut (∀ a w, S w → (S w → Till P md ops Q S t n (up.setIfInBounds i true) a w) → K' a w) → if Region.wanted o (yielded ops a.tmps) = true then Oper.wp P o a w K' Q else K' (a.put o.dst undef) w)
    (hs : TillReady P md ops Q S t n up a w rs) : TillReady P md ops Q S t n up a w (i :: rs) := fun j hj => by
  rcases List.mem_cons.1 hj with rfl | hj
  · exact wpOp_step ho (fun K' hK => h K' (fun a w hS hW => hK a w ⟨fun _ => hS, hW hS⟩))
  · exact hs j hj
/-- number t has come up: nothing is to be shown any more -/
theorem TillReady.free {n : Nat} {up : Array Bool} {a : Act} {w : World} {i : Nat} {o : Oper} {rs : List Nat} (ho : ops[i]? = some o) (hup : (up.setIfInBounds i true).getD t false = true)
    (h : ∀ K' : Act → World → Prop, Shut (∀ a w, Till P md ops Q S t n (up.setIfInBounds i true) a w → K' a w) → if Region.wanted o (yielded ops a.tmps) = true then Oper.wp P o a w K' Q else K' (a.put o.dst undef) w)
    (hs : TillReady P md ops Q S t n up a w rs) : TillReady P md ops Q S t n up a w (i :: rs) := fun j hj => by
  rcases List.mem_cons.1 hj with rfl | hj
  · exact wpOp_step ho (fun K' hK => h K' (fun a w hW => hK a w ⟨fun hf => (by rw [hup] at hf; cases hf), hW⟩))
  · exact hs j hj
theorem till_ready {rs : List Nat} {n : Nat} {up : Array Bool} {a : Act} {w : World} (hr : Region.ready md ops up = rs) (hne : rs ≠ []) (h : TillReady P md ops Q S t n up a w rs) : Till P md ops Q S t (n + 1) up a w :=
  ⟨fun h0 => absurd (hr ▸ h0) hne, hr ▸ h⟩
theorem till_done {up : Array Bool} {a : Act} {w : World} (hr : Region.ready md ops up = []) (h : Q .normal a w) : ∀ n, Till P md ops Q S t n up a w
  | 0 => ⟨hr, h⟩
  | _ + 1 => ⟨fun _ => h, by rw [hr]; simp⟩
theorem till_region (t : Nat) {id : Nat} {a : Act} {w : World} (hm : P.follows .mixedOrders = true) (hS : S w.drew)
    (h : S w.drew → Till P .any ops Q S t ops.size (Array.replicate ops.size false) a w.drew) : (Code.region id ops true).wp P Q a w :=
  wp_region_any hm (Till.any _ _ _ _ (h hS))
end
end Go.Proofs.YtgbkpkioijbgoaaDoor
