/- Three kinds of texts in an array; the law's made names; what NamesPlay wants besides. No condition. -/
import Derived.Test.YtdgpalileloekaaNamesL
namespace Go.Proofs.Ytdgpalileloekaa.names
open Go.RowKit
attribute [local go_sem ↓] Go.wp_at_zero Go.wp_at_succ
attribute [local go_sem] str_size str_bl str_append
set_option linter.unusedVariables false
set_option maxRecDepth 100000

def ArH (g : Nat) (V : Nat → Value) (L : Nat → List Nm) : List Rs := [.box g #[V 0, V 1, V 2] 52, nmR V L 0, nmR V L 1, nmR V L 2]
def ArP (g : Nat) (L : Nat → List Nm) (W : World) (fp : List Nat) : Prop :=
  ∃ V : Nat → Value, W.heap[g]? = some (.cells #[V 0, V 1, V 2] 52 (0, 0)) ∧ (∀ k, k < 3 → W.ownsRow 0 9 1 (V k) (L k).length (nmC (L k))) ∧ fp = g :: ((V 0).ownBlock.toList ++ ((V 1).ownBlock.toList ++ (V 2).ownBlock.toList)) ∧ fp.Nodup
theorem ArP.keep {g : Nat} {L : Nat → List Nm} (W W' : World) (fp : List Nat) (h : ArP g L W fp) (hb : ∀ b, b ∈ fp → b < W.heap.size ∧ W'.heap[b]? = W.heap[b]?) : ArP g L W' fp := by
  obtain ⟨V, h1, h2, rfl, h4⟩ := h
  exact ⟨V, ((hb g (by simp)).2).trans h1, fun k hk => ownsRow_of_block (h2 k hk) (fun b hbk => (hb b (mem_fp hk hbk)).2), rfl, h4⟩
/-- names in the box g -/
def arT (g : Nat) (L : Nat → List Nm) : Rs := .gen (ArP g L) ArP.keep
theorem ar_uniq {W : World} {g : Nat} {L : Nat → List Nm} {fp fp' : List Nat} (h : (arT g L).holds W fp) (h' : (arT g L).holds W fp') : fp = fp' := by
  obtain ⟨V, h1, h2, rfl, h4⟩ := h
  obtain ⟨V', h1', h2', rfl, h4'⟩ := h'
  rw [h1] at h1'
  injection h1' with h1'
  injection h1' with h5 _ _
  injection h5 with h5
  injection h5 with h6 h5
  injection h5 with h7 h5
  injection h5 with h8 _
  rw [h6, h7, h8]
section
variable {w W : World} {X : List Nat} {rs : List Rs} {i g : Nat} {L : Nat → List Nm}
theorem hp_ar (h : Hp w X rs W) (hi : rs[i]? = some (arT g L)) : ∃ V : Nat → Value, W.heap[g]? = some (.cells #[V 0, V 1, V 2] 52 (0, 0)) ∧ ∀ k, k < 3 → W.ownsRow 0 9 1 (V k) (L k).length (nmC (L k)) := by
  obtain ⟨fp, V, h1, h2, _⟩ := hp_get h hi
  exact ⟨V, h1, h2⟩
theorem lt_ar (h : Hp w X rs W) (hi : rs[i]? = some (arT g L)) : g < W.heap.size := by
  obtain ⟨V, h1, _⟩ := hp_ar h hi
  exact block_lt h1
end
theorem openB {w W : World} {X : List Nat} {g : Nat} {L : Nat → List Nm} {rs : List Rs} (h : Hp w X (arT g L :: rs) W) : ∃ V, Hp w X (ArH g V L ++ rs) W := by
  obtain ⟨fps, h1, h2, h3, h4⟩ := h
  cases h1 with
  | cons ha hb =>
    obtain ⟨V, g1, g2, rfl, g4⟩ := ha
    rename_i bs
    refine ⟨V, [g] :: (V 0).ownBlock.toList :: (V 1).ownBlock.toList :: (V 2).ownBlock.toList :: bs, .cons ⟨g1, rfl⟩ (.cons ⟨g2 0 (by decide), rfl⟩ (.cons ⟨g2 1 (by decide), rfl⟩ (.cons ⟨g2 2 (by decide), rfl⟩ hb))), ?_, ?_, h4⟩
    · simpa using h2
    · simpa using h3
theorem shutB {w W : World} {X : List Nat} {g : Nat} {V : Nat → Value} {L : Nat → List Nm} {rs : List Rs} (h : Hp w X (ArH g V L ++ rs) W) : Hp w X (arT g L :: rs) W := by
  obtain ⟨fps, h1, h2, h3, h4⟩ := h
  cases h1 with
  | cons ha hb =>
    cases hb with
    | cons hc hd =>
      cases hd with
      | cons he hf =>
        cases hf with
        | cons hg hh =>
          rename_i bs
          obtain ⟨ha1, rfl⟩ := ha
          obtain ⟨hc1, rfl⟩ := hc
          obtain ⟨he1, rfl⟩ := he
          obtain ⟨hg1, rfl⟩ := hg
          have e1 : ([g] :: (V 0).ownBlock.toList :: (V 1).ownBlock.toList :: (V 2).ownBlock.toList :: bs).flatten = (g :: ((V 0).ownBlock.toList ++ ((V 1).ownBlock.toList ++ (V 2).ownBlock.toList))) ++ bs.flatten := by simp
          rw [e1] at h2 h3
          refine ⟨(g :: ((V 0).ownBlock.toList ++ ((V 1).ownBlock.toList ++ (V 2).ownBlock.toList))) :: bs, .cons ⟨V, ha1, fun k hk => ?_, rfl, (List.nodup_append.1 h2).1⟩ hh, h2, h3, h4⟩
          match k, hk with
          | 0, _ => exact hc1
          | 1, _ => exact he1
          | 2, _ => exact hg1
theorem growB {w W : World} {X : List Nat} {g : Nat} {V : Nat → Value} {L : Nat → List Nm} {rs : List Rs} {k : Nat} (hk : k < 3) {v' : Value} {M : List Nm} {m : Nat} {zs : List Value}
    (h : Hp w X ((ArH g V L ++ rs).set (k + 1) (.row 9 1 v' m zs)) W) (hm : M.length = m) (hz : nmC M = zs) : Hp w X (arT g (upd L k M) :: rs) (W.setCell ⟨g, k, none⟩ v') := by
  subst hm hz
  refine shutB (V := upd V k v') ?_
  match k, hk with
  | 0, _ => exact h.put (i := 0) rfl 0 v'
  | 1, _ => exact h.put (i := 0) rfl 1 v'
  | 2, _ => exact h.put (i := 0) rfl 2 v'
theorem arh_at {g : Nat} {V : Nat → Value} {L : Nat → List Nm} {rs : List Rs} {k : Nat} (hk : k < 3) : (ArH g V L ++ rs)[k + 1]? = some (.row 9 1 (V k) (L k).length (nmC (L k))) := by
  match k, hk with
  | 0, _ => rfl
  | 1, _ => rfl
  | 2, _ => rfl
theorem arh_set {g : Nat} {V : Nat → Value} {L : Nat → List Nm} {rs : List Rs} {k : Nat} {r : Rs} : ((ArH g V L ++ rs).set (k + 1) r)[0]? = some (.box g #[V 0, V 1, V 2] 52) := rfl
/-- a fresh row takes the place of a kind's -/
theorem putB2 {w W : World} {X : List Nat} {g : Nat} {V : Nat → Value} {L : Nat → List Nm} {rs : List Rs} {k : Nat} (hk : k < 3) {v' : Value} {M : List Nm} {m : Nat} {zs : List Value}
    (h : Hp w X (.row 9 1 v' m zs :: (ArH g V L ++ rs)) W) (hm : M.length = m) (hz : nmC M = zs) : Hp w X (arT g (upd L k M) :: rs) (W.setCell ⟨g, k, none⟩ v') := by
  subst hm hz
  refine shutB (V := upd V k v') ?_
  match k, hk with
  | 0, _ => exact ((h.put (i := 1) rfl 0 v').drop 2).perm (List.Perm.swap _ _ _)
  | 1, _ => exact ((h.put (i := 1) rfl 1 v').drop 3).perm ((List.Perm.swap _ _ _).trans (List.Perm.cons _ (List.Perm.swap _ _ _)))
  | 2, _ => exact ((h.put (i := 1) rfl 2 v').drop 4).perm ((List.Perm.swap _ _ _).trans (List.Perm.cons _ ((List.Perm.swap _ _ _).trans (List.Perm.cons _ (List.Perm.swap _ _ _)))))
theorem box_sl {w W : World} {X : List Nat} {rs : List Rs} {i p : Nat} {s : Nm} (h : Hp w X rs W) (hi : rs[i]? = some (.box p #[.string (str s)] 9)) : Sl W (.slice (some ⟨p, 0, none⟩) 1 1) 1 [.string (str s)] :=
  ⟨_, _, rfl, by omega, Or.inr ⟨p, 0, rfl, h.lt hi, fun j v hj => by
    rw [Nat.zero_add]
    exact (h.cell hi j).trans (by simpa using hj)⟩⟩
theorem ar_at {w W : World} {X : List Nat} {rs : List Rs} {i a : Nat} {L : Nat → List Nm} (h : Hp w X rs W) (hi : rs[i]? = some (arT a L)) (k : Nat) (hk : k < 3) : ∃ ad cp, W.cell? ⟨a, k, none⟩ = some (.slice ad (L k).length cp) ∧ W.ownsRow 0 9 1 (.slice ad (L k).length cp) (L k).length (nmC (L k)) ∧ W.frozen? ⟨a, k, none⟩ = false := by
  obtain ⟨V, hv1, hv2⟩ := hp_ar h hi
  have hr0 := hv2 k hk
  obtain ⟨ad, cp, hV⟩ := rowShape hr0
  refine ⟨ad, cp, ?_, by rw [← hV]; exact hr0, by simp [World.frozen?, hv1]⟩
  rw [cell_of_row _ _ k _ _ _ hv1, nm_cell hk, hV]
/-- the law's names -/
def nmI (i : Nat) : Nm := [110, UInt8.ofNat (97 + i % 16), UInt8.ofNat (97 + i / 16)]
def nmIs (m : Nat) : List Nm := (List.range m).map nmI
theorem nmI_may : ∀ i, i < 128 → mayN (nmI i) = true := by decide +kernel
theorem nmI_ne : ∀ i, i < 128 → ∀ j, j < i → nmI j ≠ nmI i := by decide +kernel
theorem nmIs_len (m : Nat) : (nmIs m).length = m := by simp [nmIs]
theorem nmIs_succ (m : Nat) : nmIs (m + 1) = nmIs m ++ [nmI m] := by simp [nmIs, List.range_succ]
theorem nmIs_no (m i : Nat) (hm : m ≤ i) (hi : i < 128) : nmI i ∉ nmIs m := by
  intro h
  obtain ⟨j, hj, he⟩ := List.mem_map.1 h
  have := List.mem_range.1 hj
  exact nmI_ne i hi j (by omega) he
theorem nmIs_ok (m : Nat) (hm : m ≤ 64) : Ok (nmIs m) := by
  refine ⟨by rw [nmIs_len]; exact hm, ?_, fun x hx => ?_⟩
  · induction m with
    | zero => simp [nmIs]
    | succ m ih =>
      rw [nmIs_succ, List.nodup_append]
      refine ⟨ih (by omega), by simp, ?_⟩
      intro a ha b hb hab
      simp at hb
      subst hb hab
      exact nmIs_no m m (Nat.le_refl _) (by omega) ha
  · obtain ⟨j, hj, rfl⟩ := List.mem_map.1 hx
    have := List.mem_range.1 hj
    exact nmI_may j (by omega)
theorem conv2 (W : World) (x y : Int) : (convert 36 9 (.slice (some ⟨W.heap.size, 0, none⟩) 2 2)).run Try.prog (W.alloc (.cells #[.int .u8 x, .int .u8 y] 5)) = .ok (.string (str [UInt8.ofNat x.toNat, UInt8.ofNat y.toNat])) (W.alloc (.cells #[.int .u8 x, .int .u8 y] 5)) := by
  rw [run_convert_bytes_arg (P := Try.prog) (W.alloc (.cells #[.int .u8 x, .int .u8 y] 5)) 36 5 Try.underlying36 Try.underlying5 W.heap.size 0 2 2 [x, y] rfl (fun i hi => by
    have h2 : i = 0 ∨ i = 1 := by omega
    rcases h2 with rfl | rfl
    · exact newCell W _ _ 0
    · exact newCell W _ _ 1) 9 Try.underlying9]
  rfl
def OkL (L : Nat → List Nm) : Prop := ∀ k, k < 3 → Ok (L k)
theorem ok_gv {l : List Nm} (h : Ok l) {s : Nm} (hm : mayN s = true) : Ok (gvL l s) := by
  obtain ⟨h1, h2, h3⟩ := h
  unfold gvL
  split
  · exact ⟨h1, h2, h3⟩
  · split
    · exact ⟨h1, h2, h3⟩
    · rename_i hn hl
      refine ⟨by simp; omega, ?_, fun x hx => ?_⟩
      · rw [List.nodup_append]
        refine ⟨h2, by simp, ?_⟩
        intro a ha b hb hab
        simp at hb
        subst hb hab
        exact hn ha
      · rcases List.mem_append.1 hx with hx | hx
        · exact h3 x hx
        · simp at hx; subst hx; exact hm
theorem okL_upd {L : Nat → List Nm} (h : OkL L) (k : Nat) {M : List Nm} (hM : Ok M) : OkL (upd L k M) := fun i hi => by
  unfold upd
  split
  · exact hM
  · exact h i hi
theorem few_of {L : Nat → List Nm} (h : OkL L) : Few L := fun k hk => ⟨(h k hk).1, fun x hx => (mayN_len ((h k hk).2.2 x hx)).2⟩
/-- where a text is the first time -/
def atN (l : List Nm) (s : Nm) : Int := if s ∈ l then (l.idxOf s : Int) else -1
/-- of texts that are there once: what a look over the first so many has found last -/
theorem at_step {l : List Nm} (hn : l.Nodup) {s : Nm} {j : Nat} {x : Nm} (hx : l[j]? = some x) : atN (l.take (j + 1)) s = if x = s then (j : Int) else atN (l.take j) s := by
  have hlt := (List.getElem?_eq_some_iff.1 hx).1
  have e : l.take (j + 1) = l.take j ++ [x] := by rw [List.take_add_one, hx]; rfl
  have hlen : (l.take j).length = j := by rw [List.length_take]; omega
  have hno : x ∉ l.take j := by
    intro h
    have h2 : (l.take (j + 1)).Nodup := hn.sublist (List.take_sublist _ _)
    rw [e, List.nodup_append] at h2
    exact h2.2.2 x h x (by simp) rfl
  unfold atN
  rw [e]
  by_cases hxs : x = s
  · subst hxs
    rw [if_pos (by simp), if_pos rfl, List.idxOf_append, if_neg hno, hlen]
    simp
  · rw [if_neg hxs]
    have h1 : (s ∈ l.take j ++ [x]) ↔ s ∈ l.take j := by
      simp
      intro h; exact absurd h.symm hxs
    by_cases hs : s ∈ l.take j
    · rw [if_pos (h1.2 hs), if_pos hs, List.idxOf_append, if_pos hs]
    · rw [if_neg (fun h => hs (h1.1 h)), if_neg hs]
end Go.Proofs.Ytdgpalileloekaa.names
