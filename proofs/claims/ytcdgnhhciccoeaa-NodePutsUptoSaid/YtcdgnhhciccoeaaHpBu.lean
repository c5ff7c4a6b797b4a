/- A strings.Builder among what a call holds. No condition. -/
import Derived.Test.YtcdgnhhciccoeaaBuild
import Derived.Test.YtcdgnhhciccoeaaHp
namespace Go.Proofs.Ytcdgnhhciccoeaa
open Go.RowKit
attribute [local go_sem ↓] Go.wp_at_zero Go.wp_at_succ
set_option linter.unusedVariables false
set_option maxRecDepth 100000

theorem ownsRowF_base {w : World} {b b' : Nat} {e : TypeId} {size : Nat} {v : Value} {n : Nat} {xs : List Value} (h : w.ownsRowF b e size v n xs) (hb : ∀ g, v.ownBlock = some g → b' ≤ g) : w.ownsRowF b' e size v n xs := by
  refine ⟨h.1, ?_⟩
  rcases h.2 with h1 | ⟨g, cap, cur, fz, hv, h1, h2⟩
  · exact Or.inl h1
  · exact Or.inr ⟨g, cap, cur, fz, hv, hb g (by rw [hv]; rfl), h2⟩
/-- where the row lies behind an append of a text -/
theorem append_string_at (w : World) (ty : TypeId) (base : Nat) (v : Value) (n : Nat) (xs : List Value) (hown : w.ownsRowF base 5 1 v n xs) (s : ByteArray) (hbytes : n + s.size ≤ 140737488355328) (hbase : base ≤ w.heap.size) :
    ∃ v' w', (Builtin.append_ #[36, 9] ty #[v, .string s]).run Try.prog w = .ok v' w' ∧ w'.ownsRowF base 5 1 v' (n + s.size) (xs ++ Lib.strCells s) ∧ w.grownBy w' v.ownBlock ∧ (v'.ownBlock = v.ownBlock ∨ ∀ b, v'.ownBlock = some b → w.heap.size ≤ b) := by
  obtain ⟨i0, hi, hz0, hz1, hz2⟩ := info_parts build.byteI
  have hm : n + s.size ≤ maxLen := by unfold maxLen; omega
  have hlt' : ∀ (base : Nat) (w : World) (v : Value) (n : Nat) (xs : List Value), w.ownsRowF base 5 1 v n xs → ∀ k, v.ownBlock = some k → base ≤ k := fun base w v n xs h k hk => (h.lt k hk).1
  rcases hown.2 with ⟨rfl, rfl⟩ | ⟨g, cap, cur, fz, rfl, hbg, hg, hfz, hnc, hcm, hcs, htake⟩
  · have hx : xs = [] := List.eq_nil_of_length_eq_zero (by simpa using hown.1)
    subst hx
    obtain ⟨v', w', h1, h2, h3, _⟩ := Lib.run_append_own_stringF (P := Try.prog) w w.heap.size 36 9 ty 5 i0 (by kernel_rfl) (by kernel_rfl) hi hz0 hz1 hz2 (.slice none 0 0) 0 [] (World.ownsRowF_nil _ _ _ _) s (by simpa using hm) (by simpa using hbytes) (Nat.le_refl _)
    exact ⟨v', w', h1, ownsRowF_base h2 fun g hg => Nat.le_trans hbase (hlt' _ _ _ _ _ h2 g hg), h3, Or.inr (hlt' _ _ _ _ _ h2)⟩
  · obtain ⟨v', w', h1, h2, h3, _⟩ := Lib.run_append_own_stringF (P := Try.prog) w base 36 9 ty 5 i0 (by kernel_rfl) (by kernel_rfl) hi hz0 hz1 hz2 _ n xs hown s hm hbytes hbase
    refine ⟨v', w', h1, h2, h3, ?_⟩
    have hxl : xs.length = n := by simpa using hown.1
    by_cases hroom : n + s.size ≤ cap
    · have hcs' : cur.size = cap := by simpa using hcs
      have hr := Lib.run_append_room_stringF (P := Try.prog) w 36 9 ty 5 i0 (by kernel_rfl) (by kernel_rfl) hi hz1 g n cap cur fz hg (by simpa using hfz) s hroom (by omega)
      rw [h1] at hr
      injection hr with hv _
      exact Or.inl (by rw [hv]; rfl)
    · have holds : ∀ j u, xs[j]? = some u → w.cell? ((⟨g, 0, none⟩ : Addr).add j) = some u := hown.cells (g := g) rfl
      have hsmall : n + s.size ≤ 9223372036854775807 := by omega
      have hr := Lib.run_append_grow_string (P := Try.prog) w 36 9 ty 5 i0 (.int .u8 0) (by kernel_rfl) (by kernel_rfl) hi hz0 ⟨g, 0, none⟩ n cap xs (by rw [hz1]; simpa using hxl) holds s (by omega) (by omega) (by rw [hz2]; exact growslice_fits (by omega) (by omega))
      rw [h1] at hr
      injection hr with hv _
      refine Or.inr fun b hb => ?_
      rw [hv] at hb
      injection hb with hb
      rw [← hb]; exact Nat.le_refl _
theorem wpList_append_string_at {w : World} {ops : Array Oper} {rest : List Oper} {o : Oper} {a : Act} {Q : Exit → Act → World → Prop} (hgd : o.guard = none) (sl x : Operand)
    (ho : o.op = .call { callee := .builtin .append, args := #[sl, x], argTypes := #[36, 9] })
    (v : Value) (n : Nat) (xs : List Value) (hs : a.eval sl = v) (B : Nat) (hB : B ≤ w.heap.size) (hown : w.ownsRowF B 5 1 v n xs) (s : ByteArray) (hx : a.eval x = .string s) (hbytes : n + s.size ≤ 140737488355328)
    (h : ∀ v' w', w'.ownsRowF B 5 1 v' (n + s.size) (xs ++ Lib.strCells s) → w.grownBy w' v.ownBlock → (v'.ownBlock = v.ownBlock ∨ ∀ b, v'.ownBlock = some b → w.heap.size ≤ b) → wpList Try.prog ops Q rest (a.put o.dst v') w') : wpList Try.prog ops Q (o :: rest) a w := by
  refine wpList_plain hgd fun K hK => ?_
  obtain ⟨v', w', hr, h2, h3, h4⟩ := append_string_at w o.type B v n xs hown s hbytes hB
  unfold Oper.wp execOp
  simp only [ho, resolve, invoke, builtin, Sem.run_bind, Sem.run_pure, Result.andThen_ok, List.map_toArray, List.map_cons, List.map_nil, hs, hx, hr]
  exact hK _ _ (h v' w' h2 h3 h4)
/-- a builder: its own block, and its row -/
def buP (b : Nat) (l : List UInt8) (W : World) (fp : List Nat) : Prop :=
  ∃ p v, W.heap[b]? = some (.cells #[p, v] 65 (0, 0)) ∧ (p = .pointer none ∨ p = .pointer (some ⟨b, 0, none⟩)) ∧ W.ownsRowF b 5 1 v l.length (Lib.byteCells l) ∧ v.ownBlock ≠ some b ∧ fp = b :: v.ownBlock.toList
theorem ownsRowF_of_block {w w' : World} {base : Nat} {e : TypeId} {size : Nat} {v : Value} {n : Nat} {xs : List Value} (h : w.ownsRowF base e size v n xs) (hb : ∀ g, v.ownBlock = some g → w'.heap[g]? = w.heap[g]?) : w'.ownsRowF base e size v n xs := by
  rcases h.2 with ⟨rfl, h0⟩ | ⟨g, cap, cur, fz, rfl, h1, hg, h2⟩
  · exact ⟨h.1, Or.inl ⟨rfl, h0⟩⟩
  · exact ⟨h.1, Or.inr ⟨g, cap, cur, fz, rfl, h1, (hb g rfl).trans hg, h2⟩⟩
def bu (b : Nat) (l : List UInt8) : Rs := .gen (buP b l) fun W W' fp h hb => by
  obtain ⟨p, v, h1, h2, h3, h4, h5⟩ := h
  exact ⟨p, v, ((hb b (by rw [h5]; simp)).2).trans h1, h2, ownsRowF_of_block h3 fun g hg => (hb g (by rw [h5, hg]; simp)).2, h4, h5⟩
theorem buP.is {b : Nat} {l : List UInt8} {W : World} {fp : List Nat} (h : buP b l W fp) : Lib.IsBuilderF 65 5 b b (Lib.byteCells l) W := by
  obtain ⟨p, v, h1, h2, h3, h4, h5⟩ := h
  have hl : (Lib.byteCells l).length = l.length := by simp [Lib.byteCells]
  rcases h2 with rfl | rfl
  · exact Or.inl ⟨Nat.le_refl _, v, h1, by rw [hl]; exact h3, h4⟩
  · exact Or.inr ⟨Nat.le_refl _, v, h1, by rw [hl]; exact h3, h4⟩
theorem Hp.bu {w W : World} {X : List Nat} {rs : List Rs} {i b : Nat} {l : List UInt8} (h : Hp w X rs W) (hi : rs[i]? = some (bu b l)) : ∃ fp, buP b l W fp := by
  obtain ⟨fps, h1, _⟩ := h
  obtain ⟨fp, _, hr⟩ := h1.get hi
  exact ⟨fp, hr⟩
theorem Hp.bnew {w W : World} {X : List Nat} {rs : List Rs} (h : Hp w X rs W) : Hp w X (Go.Proofs.Ytcdgnhhciccoeaa.bu W.heap.size [] :: rs) (W.alloc (.cells #[.pointer none, .slice none 0 0] 65)) :=
  h.new _ (fp' := [W.heap.size]) ⟨.pointer none, .slice none 0 0, heap_alloc_new W _, Or.inl rfl, World.ownsRowF_nil _ _ _ _, by simp [Value.ownBlock], rfl⟩ (by simp) ((Below.refl _ _).alloc (Nat.le_refl _) _) (by simp)
set_option maxHeartbeats 2000000 in
theorem bwrite_at (b : Nat) (l m : List UInt8) (w : World) (fp : List Nat) (h : buP b l w fp) (hlen : l.length + m.length ≤ 140737488355328) :
    Calls Try.prog 34 #[.pointer (some ⟨b, 0, none⟩), .string (str m)] w fun e w' => e = .returned (.tuple #[.int .i64 m.length, .nilIface]) ∧ ∃ fp', buP b (l ++ m) w' fp' ∧ fp'.Nodup ∧ Keeps fp w w' ∧ (∀ k, k ∈ fp' → k < w'.heap.size ∧ (k ∈ fp ∨ w.heap.size ≤ k)) := by
  have hz := str_size m
  have hcp := build.copy_any b b (Lib.byteCells l) w h.is
  obtain ⟨p, v, hblk, hp, hrow, hne, rfl⟩ := h
  have hcopy : Calls Try.prog 43 #[.pointer (some ⟨b, 0, none⟩)] w fun e w' => e = .returned (.tuple #[]) ∧ w'.heap[b]? = some (.cells #[.pointer (some ⟨b, 0, none⟩), v] 65 (0, 0)) ∧ w'.heap.size = w.heap.size ∧ w'.ownsRowF b 5 1 v l.length (Lib.byteCells l) ∧ Keeps [b] w w' := by
    rcases hp with rfl | rfl
    · refine (build.copy_fresh b w (by rw [Lib.cell_of_heap hblk]; rfl) (by simp [World.shape?, hblk]) (by simp [World.frozen?, hblk])).mono ?_
      rintro e w' ⟨rfl, rfl⟩
      refine ⟨rfl, ?_, by simp [World.setCell], ownsRowF_of_block hrow fun g hg => Below.heap_setCell _ _ _ _ (by rintro rfl; exact hne hg), (Keeps.refl _ _).setCell (Or.inl (by simp)) _⟩
      have := heap_setCell_same w b 0 _ _ (.pointer (some ⟨b, 0, none⟩)) hblk
      simpa using this
    · refine (build.copy_used b w (by rw [Lib.cell_of_heap hblk]; rfl)).mono ?_
      rintro e w' ⟨rfl, rfl⟩
      exact ⟨rfl, hblk, rfl, hrow, Keeps.refl _ _⟩
  clear hcp hp
  replace hcopy := Lib.hid hcopy; replace hrow := Lib.hid hrow; replace hblk := Lib.hid hblk
  go_enter Try.func34, Try.ntmps34
  go_wp2_with (go_at_call 43; refine hcopy.out.mono ?_)
  rintro e w1 ⟨rfl, hb1, hsz, hr1, hk1⟩
  have c0 : w1.cell? ⟨b, 0, none⟩ = some (.pointer (some ⟨b, 0, none⟩)) := by rw [Lib.cell_of_heap hb1]; rfl
  have c1 : w1.cell? ⟨b, 1, none⟩ = some v := by rw [Lib.cell_of_heap hb1]; rfl
  have hble : b ≤ w1.heap.size := Nat.le_of_lt (block_lt hb1)
  replace hb1 := Lib.hid hb1; replace hsz := Lib.hid hsz; replace hr1 := Lib.hid hr1; replace hk1 := Lib.hid hk1; replace hz := Lib.hid hz
  have hlen1 : l.length + (str m).size ≤ 140737488355328 := by rw [hz.out]; exact hlen
  replace hlen1 := Lib.hid hlen1
  go_wp2_with (at_builtin; refine wpList_append_string_at rfl _ _ rfl v _ _ rfl b hble hr1.out (str m) rfl hlen1.out ?_)
  intro v' w2 hown' hgrow hat
  have hlt : b < w1.heap.size := block_lt hb1.out
  have hb2 : w2.heap[b]? = some (.cells #[.pointer (some ⟨b, 0, none⟩), v] 65 (0, 0)) := (hgrow.block b hlt (fun e => hne e.symm)).trans hb1.out
  have d0 : w2.cell? ⟨b, 0, none⟩ = some (.pointer (some ⟨b, 0, none⟩)) := by rw [Lib.cell_of_heap hb2]; rfl
  have d1 : w2.cell? ⟨b, 1, none⟩ = some v := by rw [Lib.cell_of_heap hb2]; rfl
  have f1 : w2.frozen? ⟨b, 1, none⟩ = false := Lib.frozen_of_heap hb2 1
  have hne' : v'.ownBlock ≠ some b := by
    rcases hat with h | h
    · rw [h]; exact hne
    · intro e; have := h b e; omega
  have hlen2 : (l ++ m).length = l.length + (str m).size := by rw [hz.out, List.length_append]
  have hcells : Lib.byteCells (l ++ m) = Lib.byteCells l ++ Lib.strCells (str m) := by rw [Lib.byteCells_append]; rfl
  have hKp : Keeps (b :: v.ownBlock.toList) w (w2.setCell ⟨b, 1, none⟩ v') := by
    refine Keeps.setCell (X := b :: v.ownBlock.toList) ⟨hgrow.os.trans hk1.out.os, hgrow.tape.trans hk1.out.tape, hgrow.output.trans hk1.out.output, Nat.le_trans hk1.out.size hgrow.size, fun k hk hx => ?_⟩ (Or.inl (by simp)) _
    simp only [List.mem_cons, not_or] at hx
    exact (hgrow.block k (by rw [hsz.out]; exact hk) (fun e => hx.2 (by rw [← e]; simp))).trans (hk1.out.block k hk (by simp; exact hx.1))
  have hfin : buP b (l ++ m) (w2.setCell ⟨b, 1, none⟩ v') (b :: v'.ownBlock.toList) := by
    refine ⟨.pointer (some ⟨b, 0, none⟩), v', ?_, Or.inr rfl, ?_, hne', rfl⟩
    · have := heap_setCell_same w2 b 1 _ _ v' hb2
      simpa using this
    · rw [hlen2, hcells]
      exact ownsRowF_of_block hown' fun g hg => Below.heap_setCell _ _ _ _ (by rintro rfl; exact hne' hg)
  have hfp : ∀ k, k ∈ b :: v'.ownBlock.toList → k < (w2.setCell ⟨b, 1, none⟩ v').heap.size ∧ (k ∈ b :: v.ownBlock.toList ∨ w.heap.size ≤ k) := by
    intro k hk
    have hs2 : (w2.setCell ⟨b, 1, none⟩ v').heap.size = w2.heap.size := by simp [World.setCell]
    rw [hs2]
    simp only [List.mem_cons, Option.mem_toList] at hk ⊢
    rcases hk with rfl | hk
    · exact ⟨Nat.lt_of_lt_of_le hlt hgrow.size, Or.inl (Or.inl rfl)⟩
    · refine ⟨(hown'.lt k hk).2, ?_⟩
      rcases hat with h | h
      · exact Or.inl (Or.inr (by rw [← h]; exact hk))
      · exact Or.inr (by rw [← hsz.out]; exact h k hk)
  have hnd : (b :: v'.ownBlock.toList).Nodup := by
    cases hv : v'.ownBlock with
    | none => simp
    | some k => simp; rintro rfl; exact hne' hv
  obtain ⟨ao, n', cap, rfl⟩ : ∃ ao n' cap, v' = .slice ao n' cap := by
    rcases hown'.2 with ⟨hv, _⟩ | ⟨g, cap, cur, fz, hv, _⟩
    · exact ⟨_, _, _, hv⟩
    · exact ⟨_, _, _, hv⟩
  clear hown' hgrow hat hb2 hne' hlen2 hcells
  replace hKp := Lib.hid hKp; replace hfin := Lib.hid hfin; replace hfp := Lib.hid hfp; replace hnd := Lib.hid hnd
  go_wp2
  go_ret2
  exact ⟨by rw [hz.out]; rfl, _, hfin.out, hnd.out, hKp.out, hfp.out⟩
theorem buP.uniq {b : Nat} {l : List UInt8} {W : World} {fp fp' : List Nat} (h : buP b l W fp) (h' : buP b l W fp') : fp' = fp := by
  obtain ⟨p, v, h1, _, _, _, rfl⟩ := h
  obtain ⟨p', v', h1', _, _, _, rfl⟩ := h'
  rw [h1] at h1'
  injection h1' with h1'
  injection h1' with h2
  have : v = v' := by have := congrArg (fun a : Array Value => a[1]?) h2; simpa [List.getElem?_toArray] using this
  rw [this]
/-- what is written -/
theorem Hp.write {w W : World} {X : List Nat} {rs : List Rs} {i b : Nat} {l : List UInt8} (h : Hp w X rs W) (hi : rs[i]? = some (Go.Proofs.Ytcdgnhhciccoeaa.bu b l)) (m : List UInt8) (hlen : l.length + m.length ≤ 140737488355328) :
    Calls Try.prog 34 #[.pointer (some ⟨b, 0, none⟩), .string (str m)] W fun e W' => e = .returned (.tuple #[.int .i64 m.length, .nilIface]) ∧ Hp w X (rs.set i (Go.Proofs.Ytcdgnhhciccoeaa.bu b (l ++ m))) W' := by
  obtain ⟨fp, hfp⟩ := h.bu hi
  refine (bwrite_at b l m W fp hfp hlen).mono ?_
  rintro e W' ⟨he, fp', h1, h2, h3, h4⟩
  refine ⟨he, h.upd hi _ fun fp2 hr => ?_⟩
  have : fp2 = fp := hfp.uniq hr
  subst this
  exact ⟨fp', h1, h2, h3, h4⟩
theorem buP.lt {b : Nat} {l : List UInt8} {W : World} {fp : List Nat} (h : buP b l W fp) : b < W.heap.size := block_lt h.choose_spec.choose_spec.1
/-- the text of a builder that the call made: what is held is let go -/
theorem Hp.bstring {w W : World} {X : List Nat} {rs : List Rs} {i b : Nat} {l : List UInt8} (h : Hp w X rs W) (hi : rs[i]? = some (Go.Proofs.Ytcdgnhhciccoeaa.bu b l)) (hb : w.heap.size ≤ b) :
    Calls Try.prog 37 #[.pointer (some ⟨b, 0, none⟩)] W fun e W' => e = .returned (.string (str l)) ∧ Hp w X [] W' := by
  obtain ⟨fp, hfp⟩ := h.bu hi
  refine (Try.Builder_String_any_k b b l W hfp.is (Nat.le_of_lt hfp.lt)).mono ?_
  rintro e w' ⟨rfl, h1, b1, k1⟩
  refine ⟨rfl, [], .nil, by simp, by simp, ?_⟩
  have hk := h.kp
  exact ⟨b1.os.trans hk.os, b1.tape.trans hk.tape, b1.output.trans hk.output, Nat.le_trans hk.size b1.size, fun k hk1 hx => (b1.block k (Nat.lt_of_lt_of_le hk1 hb)).trans (hk.block k hk1 hx)⟩
end Go.Proofs.Ytcdgnhhciccoeaa
