/- Maps and queues that are held, in a region that draws its order: an entry is laid, or goes; an append. No condition. -/
import Derived.Test.YtcdcipfojfnblaaGreatDoorMpr
import Derived.Test.YtcdcipfojfnblaaGreatDoorTailZ
namespace Go.Proofs.YtcdcipfojfnblaaGreatDoor.mpr
open Go.RowKit
set_option linter.unusedVariables false
set_option maxRecDepth 100000

section
variable {w W : World} {X : List Nat} {rs : List Rs} {ops : Array Oper} {o : Oper} {a : Act} {K : Act → World → Prop} {Q : Exit → Act → World → Prop} {E : Prop} {kt m c : Nat} {f : List UInt8 → Option (List UInt8)}
theorem step_update_hp (hgd : o.guard = none) (mO x v : Operand) {t e : TypeId} (hop : o.op = Op.mapUpdate t mO x v) (h : Hp w X rs W) (i : Nat) (hi : rs[i]? = some (mst kt m f c)) (KK : Maps.Keyed Tryz.prog kt) (ht : Tryz.prog.underlying t = some (.map kt e)) (hc : c < 100000000)
    (hm : a.eval mO = .map (some m)) {key : Value} (hx : a.eval x = key) {k s : List UInt8} (hkey : keyOf Tryz.prog kt key = some (.string k)) (hv : a.eval v = .agg #[.string (str s)])
    (hn : ∀ W', Hp w X (rs.set i (mst kt m (fun j => if j = k then some s else f j) (if (f k).isSome then c else c + 1))) W' → K (a.put o.dst undef) W') :
    if Region.wanted o (yielded ops a.tmps) = true then Oper.wp Tryz.prog o a W K Q else E := by
  have hw : Region.wanted o (yielded ops a.tmps) = true := by simp [Region.wanted, hgd]
  rw [if_pos hw]
  obtain ⟨D, h1, h2, h3, h4⟩ := mst_get h hi
  obtain ⟨w', hrun, r1, r2⟩ := h1.store KK ht (by unfold maxLen; omega) hkey (sha.noteElem_mk (str s))
  unfold Oper.wp
  simp [execOp, hop, hm, hx, hv, hrun, Result.andThen]
  have e2 : (str s).data.toList = s := by simp [str]
  rw [e2] at r1
  exact hn _ (mst_put h hi KK h1 h2 h3 h4 r1 r2)
theorem step_delete_hp (hgd : o.guard = none) (mO x : Operand) {t e : TypeId} (hop : o.op = Op.call { callee := Callee.builtin Builtin.delete, args := #[mO, x], argTypes := #[t, kt] }) (h : Hp w X rs W) (i : Nat) (hi : rs[i]? = some (mst kt m f c)) (KK : Maps.Keyed Tryz.prog kt) (ht : Tryz.prog.underlying t = some (.map kt e))
    (hm : a.eval mO = .map (some m)) {key : Value} (hx : a.eval x = key) {k : List UInt8} (hkey : keyOf Tryz.prog kt key = some (.string k))
    (hn : ∀ W', Hp w X (rs.set i (mst kt m (fun j => if j = k then none else f j) (if (f k).isSome then c - 1 else c))) W' → K (a.put o.dst (.tuple #[])) W') :
    if Region.wanted o (yielded ops a.tmps) = true then Oper.wp Tryz.prog o a W K Q else E := by
  have hw : Region.wanted o (yielded ops a.tmps) = true := by simp [Region.wanted, hgd]
  rw [if_pos hw]
  obtain ⟨D, h1, h2, h3, h4⟩ := mst_get h hi
  obtain ⟨w', hrun, r1, r2⟩ := h1.drop KK ht hkey o.type
  unfold Oper.wp
  simp [execOp, hop, resolve, invoke, builtin, hm, hx, hrun, Result.andThen]
  exact hn _ (mst_del h hi KK h1 h2 h3 h4 r1 r2)
theorem step_append_tlz (hgd : o.guard = none) (s x : Operand) {t e : TypeId} {z : Value} {size bytes : Nat} (ho : o.op = .call { callee := .builtin .append, args := #[s, x], argTypes := #[t, t] })
    (ht : Tryz.prog.underlying t = some (.slice e)) (hI : (Tryz.prog.info? e).map (fun i => (i.zero, i.size, i.bytes)) = some (some z, size, bytes)) (hzs : z.cells.size = size) (hsz : 0 < size) (hby : bytes ≤ 1000)
    (h : Hp w X rs W) (i : Nat) {v : Value} {n : Nat} {xs : List Value} (hi : rs[i]? = some (tlz e size v n xs)) (hs : a.eval s = v) {xv : Value} {m : Nat} {ys : List Value} (hx : a.eval x = xv) (hsl : Sl W xv m ys)
    (hys : ys.length = m * size) (h1 : ∀ u ∈ ys, u.oneCell' = true) (h0 : m ≠ 0) (hl : n + m ≤ 100000000)
    (hn : ∀ v' W', Hp w X (rs.set i (tlz e size v' (n + m) (xs ++ ys))) W' → (∃ ad cap, v' = .slice ad (n + m) cap) → K (a.put o.dst v') W') :
    if Region.wanted o (yielded ops a.tmps) = true then Oper.wp Tryz.prog o a W K Q else E := by
  have hw : Region.wanted o (yielded ops a.tmps) = true := by simp [Region.wanted, hgd]
  rw [if_pos hw]
  obtain ⟨v', W', hrun, h2, h3⟩ := h.tailzAppend hi (ty := o.type) ht hI hzs hsz hby hsl hys h1 h0 hl
  exact Lib.wp_append_run W s x t t ho _ _ hs hx _ _ hrun (hn _ _ h2 h3)
end
end Go.Proofs.YtcdcipfojfnblaaGreatDoor.mpr
