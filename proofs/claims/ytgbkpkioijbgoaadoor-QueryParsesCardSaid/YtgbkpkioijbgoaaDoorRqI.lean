/- Is a name one of some (lodestoneref33.in); which questions may be, as the document has it, in plain words. No condition but where the names lie. -/
import Derived.Test.YtgbkpkioijbgoaaDoorQry8
namespace Go.Proofs.YtgbkpkioijbgoaaDoor.qry
open Go.RowKit
open names (Nm nmC nmC_len nmC_at nmC_append)
attribute [local go_sem ↓] Go.wp_at_zero Go.wp_at_succ
attribute [local go_sem] str_size str_bl
set_option linter.unusedVariables false
set_option linter.unusedSimpArgs false
set_option maxRecDepth 100000

def rinB (l : List Nm) (s : Nm) : Bool := decide (s ∈ l) && decide (s ≠ [])
set_option maxHeartbeats 4000000 in
theorem rin_any (ad : Option Addr) (n cp : Nat) (l : List Nm) (s : Nm) (w : World) (h : Sl w (.slice ad n cp) n (nmC l)) (hn : n = l.length) (hb : n ≤ 1000000) :
    Calls Tryd.prog 71 #[.slice ad n cp, .string (str s)] w fun e w' => e = .returned (.bool (rinB l s)) ∧ w' = w := by
  have hA := slAt h
  obtain ⟨R, hR⟩ : ∃ R, R = rinB l s := ⟨_, rfl⟩
  rw [← hR]
  clear h
  replace hA := Lib.hid hA; replace hR := Lib.hid hR; replace hn := Lib.hid hn
  go_enter Tryd.func71, Tryd.ntmps71
  go_wp2
  go_loopg [5] n (fun kk s5 wr => ∃ i : Nat, s5 = .int .i64 (i : Int) ∧ i + kk = n ∧ (∀ (j : Nat) (t : Nm), j < i → l[j]? = some t → t = s → s = []) ∧ w = wr)
  case atStart => exact ⟨0, rfl, by omega, fun j t hj => by omega, rfl⟩
  case round =>
    obtain ⟨i, rfl, hik, hne, rfl⟩ := hrel
    by_cases hlt : i < n
    · obtain ⟨K, rfl⟩ : ∃ K : Nat, gk = K + 1 := ⟨gk - 1, by omega⟩
      obtain ⟨b, o, rfl, hr⟩ := hA.out.resolve_left (by omega)
      obtain ⟨t, ht⟩ : ∃ t, l[i]? = some t := ⟨_, List.getElem?_eq_getElem (by have := hn.out; omega)⟩
      have d0 : w.cell? ⟨b, o + i, none⟩ = some (.string (str t)) := hr.2 i _ (nmC_at l i t ht)
      have e1 : (0 : Int) ≤ (i : Int) := by omega
      have e2 : (i : Int) < (n : Int) := by omega
      have hib : i < 1000000 := by omega
      have hstep : (t = s → s = []) → ∀ (j : Nat) (t : Nm), j < i + 1 → l[j]? = some t → t = s → s = [] := fun hs j x hj hx => by
        by_cases hji : j < i
        · exact hne j x hji hx
        · obtain rfl : j = i := by omega
          rw [ht] at hx; injection hx with hx; rw [← hx]; exact hs
      have hyes : t = s → s ≠ [] → R = true := fun h1 h2 => by
        rw [hR.out]
        unfold rinB
        rw [decide_eq_true (show s ∈ l from by rw [← h1]; exact List.mem_of_getElem? ht), decide_eq_true h2]; rfl
      clear hne ht hr hlt
      replace hik := Lib.hid hik; replace hyes := Lib.hid hyes
      by_cases h1 : t = s
      · have n1 : (t == s) = true := by rw [h1]; simp
        by_cases h2 : s = []
        · have hst := Lib.hid (hstep (fun _ => h2))
          clear hstep hyes hR
          subst h1 h2
          go_wp2
          go_roundg K
          case measure => omega
          case rel => exact ⟨i + 1, by go_num, by have := hik.out; omega, hst.out, rfl⟩
        · have hf : R = true := hyes.out h1 h2
          have t1 : (s == []) = false := by simp [h2]
          have t2 : s.isEmpty = false := by simp [h2]
          clear hstep hyes hR
          subst hf
          replace h1 := Lib.hid h1; replace h2 := Lib.hid h2
          go_wp2
          go_ret
          exact ⟨rfl, rfl⟩
      · have n1 : (t == s) = false := by simp [h1]
        have hst := Lib.hid (hstep (fun h => absurd h h1))
        clear hstep hyes hR
        replace h1 := Lib.hid h1
        go_wp2
        go_roundg K
        case measure => omega
        case rel => exact ⟨i + 1, by go_num, by have := hik.out; omega, hst.out, rfl⟩
    · have hk0 : gk = 0 := by omega
      subst hk0
      obtain rfl : n = i := by omega
      have hf : R = false := by
        rw [hR.out]
        unfold rinB
        by_cases h2 : s = []
        · rw [show decide (s ≠ []) = false from decide_eq_false (fun h => h h2), Bool.and_false]
        · rw [show decide (s ∈ l) = false from decide_eq_false (fun hm => by
            obtain ⟨j, hj⟩ := List.getElem?_of_mem hm
            exact h2 (hne j s (by rw [hn.out]; exact (List.getElem?_eq_some_iff.1 hj).1) hj rfl)), Bool.false_and]
      clear hR hne hik hlt
      subst hf
      go_wp2
      go_ret
      exact ⟨rfl, rfl⟩
def neB (s : Nm) : Bool := decide (s ≠ [])
theorem nd_step {V : List Nm} {i : Nat} {s : Nm} (hs : V[i]? = some s) (h : ((V.take i).filter neB).Nodup) (hk : ∀ (k : Nat) (t : Nm), k < i → V[k]? = some t → t = s → s = []) : ((V.take (i + 1)).filter neB).Nodup := by
  rw [List.take_add_one, hs, List.filter_append]
  by_cases h1 : s = []
  · rw [show (some s).toList.filter neB = [] from by simp [neB, h1], List.append_nil]; exact h
  · rw [show (some s).toList.filter neB = [s] from by simp [neB, h1], List.nodup_append]
    refine ⟨h, by simp, fun a ha b hb e => ?_⟩
    rw [List.mem_singleton.1 hb] at e
    subst e
    have ha2 := (List.mem_filter.1 ha).1
    obtain ⟨k, hk2⟩ := List.getElem?_of_mem ha2
    rw [List.getElem?_take] at hk2
    split at hk2
    · rename_i hki
      exact h1 (hk k a hki hk2 rfl)
    · cases hk2
theorem nd_no {V : List Nm} {i k : Nat} {s t : Nm} (hs : V[i]? = some s) (ht : V[k]? = some t) (hk : k < i) (e : s = t) (h1 : s ≠ []) : ¬ (V.filter neB).Nodup := by
  intro h
  have hd : V = V.take i ++ V.drop i := (List.take_append_drop i V).symm
  rw [hd, List.filter_append, List.nodup_append] at h
  have hb : neB s = true := by simp [neB, h1]
  obtain ⟨hi, he⟩ := List.getElem?_eq_some_iff.1 hs
  refine h.2.2 s ?_ s ?_ rfl
  · rw [List.mem_filter]
    refine ⟨List.mem_of_getElem? (i := k) ?_, hb⟩
    rw [List.getElem?_take, if_pos hk, ht, e]
  · rw [List.mem_filter, List.drop_eq_getElem_cons hi, he]
    exact ⟨List.mem_cons_self .., hb⟩
theorem mem_ne (V : List Nm) (s : Nm) : decide (s ∈ V.filter neB) = rinB V s := by
  unfold rinB
  rw [Bool.eq_iff_iff]
  simp [List.mem_filter, neB]
/-- a question that may be, as the document reckons it -/
theorem mayV_ref (q : Qv) : q.mayV = (decide (q.vars.filter neB).Nodup && (q.fewV && (q.C.all (fun c => rinB q.vars c.var) && q.I.all (fun c => rinB q.vars c.var)))) := by
  unfold Qv.mayV
  rw [namedF_spec q.vars [] List.nodup_nil, List.nil_append]
  have hF : q.vars.filter (fun s => decide (s ≠ [])) = q.vars.filter neB := rfl
  rw [hF]
  by_cases hd : (q.vars.filter neB).Nodup
  · rw [if_pos hd, decide_eq_true hd, Bool.true_and]
    have e1 : (fun c : Cd => decide (c.var ∈ q.vars.filter neB)) = (fun c => rinB q.vars c.var) := funext fun c => mem_ne _ _
    have e2 : (fun c : It => decide (c.var ∈ q.vars.filter neB)) = (fun c => rinB q.vars c.var) := funext fun c => mem_ne _ _
    show (q.fewV && (q.C.all (fun c : Cd => decide (c.var ∈ q.vars.filter neB)) && q.I.all (fun c : It => decide (c.var ∈ q.vars.filter neB)))) = _
    rw [e1, e2]
  · rw [if_neg hd, decide_eq_false hd, Bool.false_and]
end Go.Proofs.YtgbkpkioijbgoaaDoor.qry
