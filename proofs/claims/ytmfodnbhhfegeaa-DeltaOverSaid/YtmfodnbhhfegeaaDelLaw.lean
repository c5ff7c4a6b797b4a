/- The law's own functions of layer 21 (few, with, same), All, Clone, and its awake. No condition but the rising keys. -/
import Derived.Test.YtmfodnbhhfegeaaDelRng
import Derived.Laws.StructEq
namespace Go.Proofs.Ytmfodnbhhfegeaa.delta
open Go.RowKit
attribute [local go_sem ↓] Go.wp_at_zero Go.wp_at_succ
set_option linter.unusedVariables false
set_option maxRecDepth 100000

theorem all_any (d : Nat) (v : Value) (L : List Ch) (w : World) (hd : w.heap[d]? = some (.cells #[v] 144 (0, 0))) (h : w.ownsRow 0 93 3 v L.length (chC L)) (hs : Srt L) (hn : L.length ≤ 100000) :
    Calls Try.prog 55 #[.pointer (some ⟨d, 0, none⟩)] w fun e w' => ∃ v', e = .returned v' ∧ RowOf w L v' w' := by
  have c := range_any d ⟨#[]⟩ ⟨#[]⟩ v L w hd h hs hn
  rw [range_all] at c
  replace c := Lib.hid c
  clear hd h hs hn
  go_enter Try.func55, Try.ntmps55
  go_wp2_with (go_at_call 56; (with_reducible refine (c.out).mono ?_); rintro e w2 ⟨v', rfl, hr⟩; replace hr := Lib.hid hr)
  go_ret
  exact ⟨_, rfl, hr.out⟩
theorem all_nil (w : World) : Calls Try.prog 55 #[.pointer none] w fun e w' => e = .returned (.slice none 0 0) ∧ w' = w := by
  have c := Lib.hid (range_nil ⟨#[]⟩ ⟨#[]⟩ w)
  go_enter Try.func55, Try.ntmps55
  go_wp2_with (go_at_call 56; (with_reducible refine (c.out).mono ?_); rintro e w2 ⟨rfl, rfl⟩)
  go_ret
  exact ⟨rfl, rfl⟩
theorem dclone_any (d : Nat) (v : Value) (L : List Ch) (w : World) (hd : w.heap[d]? = some (.cells #[v] 144 (0, 0))) (h : w.ownsRow 0 93 3 v L.length (chC L)) (hs : Srt L) (hn : L.length ≤ 100000) :
    Calls Try.prog 57 #[.pointer (some ⟨d, 0, none⟩)] w fun e w' => ∃ k, e = .returned (.pointer (some ⟨k, 0, none⟩)) ∧ w.heap.size ≤ k ∧ Hp w [] [Rs.bxrow 144 93 3 k L.length (chC L)] w' := by
  have c := Lib.hid (all_any d v L w hd h hs hn)
  clear hd h hs hn
  go_enter Try.func57, Try.ntmps57
  go_wp2_with (go_at_call 55; (with_reducible refine (c.out).mono ?_); rintro e w2 ⟨v', rfl, ⟨ad, cp, rfl⟩, hr⟩; have hr2 := Lib.hid ((hr.alloc #[.slice ad L.length cp] 144).shutRow); have hsz := Lib.hid hr.size)
  go_ret
  exact ⟨_, rfl, hsz.out, hr2.out⟩
theorem dclone_nil (w : World) : Calls Try.prog 57 #[.pointer none] w fun e w' => ∃ k, e = .returned (.pointer (some ⟨k, 0, none⟩)) ∧ w'.heap[k]? = some (.cells #[.slice none 0 0] 144 (0, 0)) ∧ Below w.heap.size w w' := by
  have c := Lib.hid (all_nil w)
  have hb := Lib.hid ((Below.refl w.heap.size w).alloc (Nat.le_refl _) (.cells #[.slice none 0 0] 144))
  go_enter Try.func57, Try.ntmps57
  go_wp2_with (go_at_call 55; (with_reducible refine (c.out).mono ?_); rintro e w2 ⟨rfl, rfl⟩)
  go_ret
  exact ⟨_, rfl, heap_alloc_new _ _, hb.out⟩
/-- a text's first bytes -/
def cut (n : Nat) (s : ByteArray) : ByteArray := s.extract 0 (min s.size n)
def fewC (c : Ch) : Ch := ⟨cut 2 c.k, cut 5 c.v, c.g⟩
theorem few_results (tmps : Array Value) (W' : World) (g : Nat) (cs : Array Value) (h2 : tmps.getD 2 undef = .pointer (some ⟨g, 0, none⟩)) (hg : W'.heap[g]? = some (.cells cs 93 (0, 0))) (hi : cs.size = 3) :
    (results Try.f48 tmps).run Try.prog W' = .ok (.agg cs) W' := by
  have h2' : tmps[2]?.getD undef = .pointer (some ⟨g, 0, none⟩) := by simpa using h2
  have hs : (Try.prog.info? 93).map (·.size) = some cs.size := by rw [hi]; kernel_rfl
  simp [results, Try.results48, h2', asAddr, run_loadVar_row W' g 93 93 cs (0, 0) _ hg Try.underlying93 rfl hs]
theorem few_any (c : Ch) (hk : c.k.size ≤ 9223372036854775807) (hv : c.v.size ≤ 9223372036854775807) (w : World) : Calls Try.prog 48 #[c.a] w fun e w' => e = .returned (fewC c).a ∧ Below w.heap.size w w' := by
  have hp := ((Hp.none_ w []).alloc #[.string c.k, .string c.v, .bool c.g] 93).alloc #[.string ⟨#[]⟩, .string ⟨#[]⟩, .bool false] 93
  have hsz : (w.alloc (.cells #[.string c.k, .string c.v, .bool c.g] 93)).heap.size = w.heap.size + 1 := by simp
  rw [hsz] at hp
  obtain ⟨k, vv, g⟩ := c
  unfold fewC cut Ch.a
  simp only at *
  obtain ⟨m, hm⟩ : ∃ m, m = min k.size 2 := ⟨_, rfl⟩
  obtain ⟨q, hq⟩ : ∃ q, q = min vv.size 5 := ⟨_, rfl⟩
  rw [← hm, ← hq]
  have m1 : min (k.size : Int) 2 = (m : Int) := by omega
  have m2 : (if (k.size : Int) < 2 then (k.size : Int) else 2) = (m : Int) := by split <;> omega
  have m3 : (m : Int) ≤ (k.size : Int) := by omega
  have q1 : min (vv.size : Int) 5 = (q : Int) := by omega
  have q2 : (if (vv.size : Int) < 5 then (vv.size : Int) else 5) = (q : Int) := by split <;> omega
  have q3 : (q : Int) ≤ (vv.size : Int) := by omega
  have m4 : m ≤ k.size := by omega
  have q4 : q ≤ vv.size := by omega
  clear hm hq hk hv
  go_enter Try.func48, Try.ntmps48
  go_upto_region 1 with (fail)
  generalize (w.alloc (.cells #[.string k, .string vv, .bool g] 93)).alloc (.cells #[.string ⟨#[]⟩, .string ⟨#[]⟩, .bool false] 93) = W at hp ⊢
  have x0 := hp.cell (i := 1) rfl 0; have x1 := hp.cell (i := 1) rfl 1; have x2 := hp.cell (i := 1) rfl 2
  have y0 := hp.cell (i := 0) rfl 0; have y1 := hp.cell (i := 0) rfl 1; have y2 := hp.cell (i := 0) rfl 2
  have f0 := hp.free (i := 0) rfl 0; have f1 := hp.free (i := 0) rfl 1; have f2 := hp.free (i := 0) rfl 2
  simp at x0 x1 x2 y0 y1 y2
  have hfin := Lib.hid (((hp.put (i := 0) rfl 0 (.string (k.extract 0 m))).put (i := 0) rfl 1 (.string (vv.extract 0 q))).put (i := 0) rfl 2 (.bool g)).drew
  clear hp
  go_region
  go_wp2
  exact bodyPost_ret (few_results _ _ (w.heap.size + 1) #[.string (k.extract 0 m), .string (vv.extract 0 q), .bool g] rfl (hfin.out.box (i := 0) rfl) rfl) rfl ⟨rfl, hfin.out.bel⟩
end Go.Proofs.Ytmfodnbhhfegeaa.delta
