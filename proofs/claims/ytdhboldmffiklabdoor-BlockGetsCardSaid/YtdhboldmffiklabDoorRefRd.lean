/- The document's reader (lodestoneref04.R): bytes and numbers of a fixed width, where there are enough. No condition. -/
import Derived.Test.YtdhboldmffiklabDoorHp
import Derived.Test.YtdhboldmffiklabDoorBytes2
import Derived.Test.YtdhboldmffiklabDoorCodeBig
import Derived.Laws.Rows
import Derived.Deep.DeepCutAuto
namespace Go.Proofs.YtdhboldmffiklabDoor.code
open Go.RowKit
attribute [local go_sem ↓] Go.wp_at_zero Go.wp_at_succ
attribute [local go_sem] str_size
set_option linter.unusedVariables false
set_option maxRecDepth 100000

theorem rd_results {fn : Func} {p q : Nat} (hfn : fn.results = #[.cell p 121, .tmp q]) (tmps : Array Value) (W' : World) (g : Nat) (cs : Array Value) (b : Value) (h4 : tmps.getD p undef = .pointer (some ⟨g, 0, none⟩)) (h5 : tmps.getD q undef = b) (hg : W'.heap[g]? = some (.cells cs 121 (0, 0))) (hi : cs.size = 2) :
    (results fn tmps).run Tryd.prog W' = .ok (.tuple #[.agg cs, b]) W' := by
  have h4' : tmps[p]?.getD undef = .pointer (some ⟨g, 0, none⟩) := by simpa using h4
  have h5' : tmps[q]?.getD undef = b := by simpa using h5
  have hs : (Tryd.prog.info? 121).map (·.size) = some cs.size := by rw [hi]; kernel_rfl
  simp [results, hfn, h4', h5', asAddr, run_loadVar_row W' g 121 121 cs (0, 0) _ hg Tryd.underlying121 rfl hs]
set_option maxHeartbeats 1000000 in
theorem rbytes_take (l : List UInt8) (k : Nat) (hk : k ≤ l.length) (hl : l.length ≤ 140737488355328) (w : World) :
    Calls Tryd.prog 137 #[.agg #[.string (str l), .int .i64 0], .int .i64 (k : Int)] w fun e w' => e = .returned (.tuple #[.agg #[.string (str (l.drop k)), .int .i64 0], .string (str (l.take k))]) ∧ Below w.heap.size w w' := by
  have q1 : ¬ (k : Int) < 0 := by omega
  have q2 : ¬ (l.length : Int) < (k : Int) := by omega
  have q3 : (0 : Int) ≤ (k : Int) := by omega
  have q4 : (k : Int) ≤ (l.length : Int) := by omega
  have x1 : (str l).extract k l.length = str (l.drop k) := by rw [cut_extract, List.take_of_length_le (by rw [List.length_drop]; omega)]
  have x2 : (str l).extract 0 k = str (l.take k) := by rw [cut_extract]; simp
  have hp := ((Hp.none_ w []).alloc #[.string (str l), .int .i64 0] 121).alloc #[.string ⟨#[]⟩, .int .i64 0] 121
  replace hp := Lib.hid hp
  generalize hS : str l = S at *
  have hz : S.size = l.length := by rw [← hS, str_size]
  generalize str (l.drop k) = D at *
  generalize str (l.take k) = T at *
  generalize l.length = n at *
  clear hS
  go_enter Tryd.func137, Tryd.ntmps137
  go_upto_region 5 with fail
  have hsz : (w.alloc (.cells #[.string S, .int .i64 0] 121)).heap.size = w.heap.size + 1 := by simp
  rw [hsz] at hp
  generalize World.alloc (World.alloc w _) _ = W at hp ⊢
  have fin := ((hp.out.put (i := 0) rfl 0 (.string D)).put (i := 0) rfl 1 (.int .i64 0)).drew
  have a0 := hp.out.cell (i := 1) rfl 0
  have b0 := hp.out.cell (i := 0) rfl 0
  have b1 := hp.out.cell (i := 0) rfl 1
  have f0 := hp.out.free (i := 0) rfl 0
  have f1 := hp.out.free (i := 0) rfl 1
  simp at a0 b0 b1
  replace fin := Lib.hid fin
  go_region_with (fail)
  all_goals go_wp2
  all_goals exact bodyPost_ret (rd_results Tryd.results137 _ _ (w.heap.size + 1) #[.string D, .int .i64 0] (.string T) rfl rfl (fin.out.box (i := 0) rfl) rfl) rfl ⟨rfl, fin.out.bel⟩
theorem beNat_take (l : List UInt8) (i : Nat) (h : i < l.length) : beNat (l.take (i + 1)) = beNat (l.take i) * 256 + (l[i]).toNat := by
  rw [List.take_succ_eq_append_getElem h, beNat_snoc]
set_option maxHeartbeats 1000000 in
theorem rhigh_take (l : List UInt8) (k : Nat) (hk : k ≤ l.length) (h8 : k ≤ 8) (hl : l.length ≤ 140737488355328) (w : World) :
    Calls Tryd.prog 78 #[.agg #[.string (str l), .int .i64 0], .int .i64 (k : Int)] w fun e w' => e = .returned (.tuple #[.agg #[.string (str (l.drop k)), .int .i64 0], .int .u64 (beNat (l.take k) : Int)]) ∧ Below w.heap.size w w' := by
  have hb := fun W => rbytes_take l k hk hl W
  have hT : (l.take k).length = k := by rw [List.length_take]; omega
  generalize l.take k = T at *
  generalize str (l.drop k) = D at *
  generalize str l = S at *
  obtain ⟨TT, hTT⟩ : ∃ TT, TT = str T := ⟨_, rfl⟩
  rw [← hTT] at hb
  have hti : ∀ j (hj : j < T.length) (h : j < TT.size), TT[j]'h = T[j] := by subst hTT; intro j hj h; rfl
  have htz : TT.size = k := by rw [hTT, str_size]; exact hT
  clear hTT
  replace hti := Lib.hid hti
  have hp := ((Hp.none_ w []).alloc #[.string S, .int .i64 0] 121).alloc #[.string ⟨#[]⟩, .int .i64 0] 121
  have hsz : (w.alloc (.cells #[.string S, .int .i64 0] 121)).heap.size = w.heap.size + 1 := by simp
  rw [hsz] at hp
  replace hp := Lib.hid hp; replace hb := Lib.hid hb; replace hT := Lib.hid hT
  clear hsz
  go_enter Tryd.func78, Tryd.ntmps78
  go_wp2_with (go_at_call 137; (with_reducible refine (hb.out _).mono ?_); rintro e w1 ⟨rfl, b1⟩; replace hp := Lib.hid ((hp.out.below b1).alloc #[.string D, .int .i64 0] 121); clear b1)
  go_loopw [8, 9] (fun n i wr => ∃ j : Nat, j ≤ k ∧ i = .int .i64 (j : Int) ∧ n = .int .u64 (beNat (T.take j) : Int) ∧ Hp w [] [.box w1.heap.size #[.string D, .int .i64 0] 121, .box (w.heap.size + 1) #[.string ⟨#[]⟩, .int .i64 0] 121, .box w.heap.size #[.string S, .int .i64 0] 121] wr) (fun _ i _ => k - (intOf i).toNat)
  case atStart => exact ⟨0, by omega, rfl, by simp [beNat], hp.out⟩
  case round =>
    clear hp
    obtain ⟨j, hj, rfl, rfl, hp⟩ := hrel
    by_cases hlt : j < k
    · have hjT : j < T.length := by rw [hT.out]; exact hlt
      have hstep := beNat_take T j hjT
      have hlt8 : beNat (T.take j) < 72057594037927936 := by
        have h1 := beNat_lt (T.take j)
        have h2 : (T.take j).length ≤ 7 := by rw [List.length_take]; omega
        have h3 := pow_256_le _ h2
        omega
      have hc := (T[j]).toNat_lt
      have hi := hti.out j hjT
      have e1 : (0 : Int) ≤ (j : Int) := by omega
      have e2 : (j : Int) < (k : Int) := by omega
      generalize hB : T[j] = B at *
      generalize beNat (T.take j) = N at *
      replace hp := Lib.hid hp; replace hstep := Lib.hid hstep
      clear hB hjT
      go_wp2
      go_roundw
      case rel => exact ⟨j + 1, by omega, by go_num, by rw [hstep.out]; go_num, hp.out⟩
      case measure => simp [intOf]; omega
    · obtain rfl : j = k := by omega
      have ht : T.take j = T := List.take_of_length_le (by rw [hT.out]; exact Nat.le_refl _)
      rw [ht]
      have a0 := hp.cell (i := 0) rfl 0
      have a1 := hp.cell (i := 0) rfl 1
      have b0 := hp.cell (i := 1) rfl 0
      have b1 := hp.cell (i := 1) rfl 1
      have f0 := hp.free (i := 1) rfl 0
      have f1 := hp.free (i := 1) rfl 1
      simp at a0 a1 b0 b1
      have fin := (hp.put (i := 1) rfl 0 (.string D)).put (i := 1) rfl 1 (.int .i64 0)
      replace fin := Lib.hid fin
      clear hp ht
      go_wp2
      exact bodyPost_ret (rd_results Tryd.results78 _ _ (w.heap.size + 1) #[.string D, .int .i64 0] (.int .u64 (beNat T : Int)) rfl rfl (fin.out.box (i := 1) rfl) rfl) rfl ⟨rfl, fin.out.bel⟩
end Go.Proofs.YtdhboldmffiklabDoor.code
