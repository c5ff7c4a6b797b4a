/- Tags of bytes under a key (package hmac). The table of salts is a premise. No other condition. -/
import Derived.Test.YtdhboldmffiklabDoorHmac2
import Derived.Test.YtdhboldmffiklabDoorShelf
import Derived.Laws.OwnMore
namespace Go.Proofs.YtdhboldmffiklabDoor.sha
open Go.RowKit
attribute [local go_sem ↓] Go.wp_at_zero Go.wp_at_succ
attribute [local go_sem] str_size str_append
set_option linter.unusedVariables false
set_option maxRecDepth 100000

/-- from place o of block b on these texts lie -/
def Parts (w : World) (b o : Nat) (ls : List (List UInt8)) : Prop := (∀ j l, ls[j]? = some l → w.cell? ⟨b, o + j, none⟩ = some (.string (str l))) ∧ b < w.heap.size
theorem Parts.below {w w' : World} {b o : Nat} {ls : List (List UInt8)} (h : Parts w b o ls) (k : Below w.heap.size w w') : Parts w' b o ls :=
  ⟨fun j l hj => (k.cell h.2).trans (h.1 j l hj), Nat.lt_of_lt_of_le h.2 k.size⟩
theorem parts_news {w : World} {b o : Nat} {ls : List (List UInt8)} (h : Parts w b o ls) : ∀ j u, (ls.map fun l => Value.string (str l))[j]? = some u → w.cell? ((⟨b, o, none⟩ : Addr).add j) = some u := by
  intro j u hj
  rw [List.getElem?_map] at hj
  obtain ⟨l, hl, rfl⟩ := Option.map_eq_some_iff.1 hj
  have e : (⟨b, o, none⟩ : Addr).add j = ⟨b, o + j, none⟩ := by unfold Addr.add; split <;> simp_all
  rw [e]; exact h.1 j l hl
theorem join_nil : ∀ ls : List (List UInt8), Lib.join ls [] = ls.flatten
  | [] => rfl
  | [l] => by simp [Lib.join]
  | l :: m :: r => by
    have := join_nil (m :: r)
    simp [Lib.join] at this ⊢
    first | exact this | simpa using this | simp [this]
theorem strs_data (ls : List (List UInt8)) : (ls.map str).map (·.data.toList) = ls := by
  rw [List.map_map]; exact List.map_id'' (fun l => rfl) ls
theorem sumOf_any (ls : List (List UInt8)) (b o c : Nat) (hn : ls.length ≤ 1000) (hc : ls.length ≤ c) (hl : ls.flatten.length ≤ 1000000000) (w : World) (hP : Parts w b o ls) (hT : SaltAt w salts) :
    Calls Tryd.prog 205 #[.slice (some ⟨b, o, none⟩) ls.length c] w fun e w' => e = .returned (.string (str (shaB salts ls.flatten))) ∧ Below w.heap.size w w' := by
  have hj : Calls Tryd.prog 217 #[.slice (some ⟨b, o, none⟩) ls.length c, .string ⟨#[]⟩] w fun e w' => e = .returned (.string (str ls.flatten)) ∧ Below w.heap.size w w' := by
    have h := Go.Proofs.Tryd.strings_Join b o c (ls.map str) ⟨#[]⟩ w (fun j x hx => by
      rw [List.getElem?_map] at hx
      obtain ⟨l, hl, rfl⟩ := Option.map_eq_some_iff.1 hx
      exact hP.1 j l hl) hP.2 (by simp; omega) (by simpa using hc) (by rw [strs_data]; show (Lib.join ls []).length ≤ _; rw [join_nil]; omega)
    rw [strs_data] at h
    have e : Lib.join ls (⟨#[]⟩ : ByteArray).data.toList = ls.flatten := join_nil ls
    rw [e, List.length_map] at h
    exact h
  have hs := fun w' h => sum_any salts salts_small ls.flatten hl w' h
  clear hP hc hn hl
  obtain ⟨n, hn⟩ : ∃ n, n = ls.length := ⟨_, rfl⟩
  obtain ⟨F, hF⟩ : ∃ F, F = ls.flatten := ⟨_, rfl⟩
  rw [← hn, ← hF] at hj
  rw [← hF] at hs
  rw [← hn, ← hF]
  clear hn hF
  replace hj := Lib.hid hj
  replace hs := Lib.hid hs
  replace hT := Lib.hid hT
  go_enter Tryd.func205, Tryd.ntmps205
  go_wp2_with (first
    | (go_at_call 217; (with_reducible refine hj.out.mono ?_); rintro e w1 ⟨rfl, b1⟩; replace b1 := Lib.hid b1)
    | (go_at_call 97; (with_reducible refine (hs.out _ (hT.out.keep b1.out)).mono ?_); rintro e w2 ⟨rfl, b2⟩; replace b2 := Lib.hid (belowCont b1.out b2)))
  go_ret
  exact ⟨rfl, b2.out⟩
theorem strInfo : (Tryd.prog.info? 9).map (fun i => (i.zero, i.size, i.bytes)) = some (some (.string ⟨#[]⟩), 1, 16) := by kernel_rfl
theorem parts_two (w : World) (x y : List UInt8) : Parts (w.alloc (.cells #[.string (str x), .string (str y)] 9)) w.heap.size 0 [x, y] :=
  ⟨fun j l hj => by
    rw [cell_of_row _ _ _ _ _ _ (heap_alloc_new w _)]
    match j, hj with
    | 0, hj => simp at hj; subst hj; rfl
    | 1, hj => simp at hj; subst hj; rfl, by simp⟩
theorem parts_one (w : World) (x : List UInt8) : Parts (w.alloc (.cells #[.string (str x)] 9)) w.heap.size 0 [x] :=
  ⟨fun j l hj => by
    rw [cell_of_row _ _ _ _ _ _ (heap_alloc_new w _)]
    match j, hj with
    | 0, hj => simp at hj; subst hj; rfl, by simp⟩
set_option maxRecDepth 100000 in
set_option maxHeartbeats 4000000 in
theorem tagOf_any (k : List UInt8) (ls : List (List UInt8)) (b o c : Nat) (hk : k.length ≤ 1000000000) (hn0 : 0 < ls.length) (hn : ls.length ≤ 100) (hl : ls.flatten.length ≤ 100000000) (w : World) (hP : Parts w b o ls) (hT : SaltAt w salts) :
    Calls Tryd.prog 180 #[.string (str k), .slice (some ⟨b, o, none⟩) ls.length c] w fun e w' => e = .returned (.string (str (tagL k ls.flatten))) ∧ Below w.heap.size w w' := by
  have hm1 : ∀ w', SaltAt w' salts → Calls Tryd.prog 206 #[.string (str k), .int .u8 54] w' fun e w2 => e = .returned (.string (str (markL k 54))) ∧ Below w'.heap.size w' w2 := fun w' h => marked_any k 54 hk w' h
  have hm2 : ∀ w', SaltAt w' salts → Calls Tryd.prog 206 #[.string (str k), .int .u8 92] w' fun e w2 => e = .returned (.string (str (markL k 92))) ∧ Below w'.heap.size w' w2 := fun w' h => marked_any k 92 hk w' h
  have ml1 := markL_len k 54
  have ml2 := markL_len k 92
  have hs1 := fun w' g cap hc h h2 => sumOf_any (markL k 54 :: ls) g 0 cap (by rw [List.length_cons]; omega) hc (by rw [List.flatten_cons, List.length_append, ml1]; omega) w' h h2
  have hs2 := fun w' g h h2 => sumOf_any [markL k 92, shaB salts (markL k 54 ++ ls.flatten)] g 0 2 (by simp) (by simp) (by simp [ml2, shaB_len]) w' h h2
  have hfin : shaB salts [markL k 92, shaB salts (markL k 54 ++ ls.flatten)].flatten = tagL k ls.flatten := by simp [tagL]
  have hI : shaB salts (markL k 54 :: ls).flatten = shaB salts (markL k 54 ++ ls.flatten) := by simp
  rw [hfin] at hs2
  rw [hI] at hs1
  obtain ⟨M1, hM1⟩ : ∃ M, M = markL k 54 := ⟨_, rfl⟩
  obtain ⟨M2, hM2⟩ : ∃ M, M = markL k 92 := ⟨_, rfl⟩
  obtain ⟨I, hI0⟩ : ∃ I, I = shaB salts (markL k 54 ++ ls.flatten) := ⟨_, rfl⟩
  rw [← hI0] at hs1 hs2
  rw [← hM1] at hm1 hs1
  rw [← hM2] at hm2 hs2
  obtain ⟨i, hi, hz, hsz, hby⟩ := info_parts strInfo
  obtain ⟨n, hnn⟩ : ∃ n, n = ls.length := ⟨_, rfl⟩
  have hs1' : ∀ w' g cap, 1 + n ≤ cap → Parts w' g 0 (M1 :: ls) → SaltAt w' salts → Calls Tryd.prog 205 #[.slice (some ⟨g, 0, none⟩) (1 + n) cap] w' fun e w2 => e = .returned (.string (str I)) ∧ Below w'.heap.size w' w2 := fun w' g cap hc h h2 => by
    have e : (M1 :: ls).length = 1 + n := by rw [hnn]; simp; omega
    have := hs1 w' g cap (by rw [e]; exact hc) h h2
    rwa [e] at this
  have hs2' : ∀ w' g, Parts w' g 0 [M2, I] → SaltAt w' salts → Calls Tryd.prog 205 #[.slice (some ⟨g, 0, none⟩) 2 2] w' fun e w2 => e = .returned (.string (str (tagL k ls.flatten))) ∧ Below w'.heap.size w' w2 := fun w' g h h2 => hs2 w' g h h2
  rw [← hnn]
  clear hM1 hM2 hI0 hfin hI hs1 hs2 ml1 ml2
  replace hm1 := Lib.hid hm1; replace hm2 := Lib.hid hm2; replace hs1' := Lib.hid hs1'; replace hs2' := Lib.hid hs2'
  replace hP := Lib.hid hP; replace hT := Lib.hid hT; replace hnn := Lib.hid hnn
  replace hn := Lib.hid hn; replace hn0 := Lib.hid hn0; replace hl := Lib.hid hl; replace hk := Lib.hid hk
  replace hi := Lib.hid hi; replace hz := Lib.hid hz; replace hsz := Lib.hid hsz; replace hby := Lib.hid hby
  go_enter Tryd.func180, Tryd.ntmps180
  go_wp2_with (first
    | (go_at_call 206; (with_reducible refine (hm1.out _ hT.out).mono ?_); rintro e w1 ⟨rfl, b1⟩; replace b1 := Lib.hid b1)
    | (at_builtin; refine wpList_append_lies _ rfl (.tmp 8) (.tmp 9) 22 rfl w.heap.size 9 i (.string ⟨#[]⟩) 1 16 Tryd.underlying22 hi.out hz.out hsz.out hby.out rfl (by decide) (.slice (some ⟨w1.heap.size, 0, none⟩) 1 1) 1 [.string (str M1)] rfl ?own ⟨b, o, none⟩ n c (ls.map fun l => .string (str l)) rfl ?len ?news ?one ?pos ?mx ?byt ?base _ rfl ?_; (case own => exact World.ownsRow_lit w1 #[.string (str M1)] 1 b1.out.size (by decide) rfl); (case len => rw [hnn.out]; simp); (case news => exact parts_news ((hP.out.below b1.out).below ((Below.refl _ w1).alloc (Nat.le_refl _) _))); (case one => intro u hu; simp at hu; obtain ⟨l, _, rfl⟩ := hu; rfl); (case pos => rw [hnn.out]; exact hn0.out); (case mx => have := hn.out; rw [hnn.out]; unfold maxLen; omega); (case byt => have := hn.out; rw [hnn.out]; omega); (case base => have := b1.out.size; simp; omega); intro g cap w2 hown hgrow hat hlt; replace hown := Lib.hid hown; replace hgrow := Lib.hid hgrow; replace hat := Lib.hid hat; replace hlt := Lib.hid hlt))
  have hlen : 1 + n ≤ cap := by
    rcases hown.out.2 with ⟨h', _⟩ | ⟨g', cap', cur, h', _, _, h1, _⟩
    · simp at h'
    · simp only [Value.slice.injEq] at h'
      rw [h'.2.2]; exact h1
  have hP2 : Parts w2 g 0 (M1 :: ls) := ⟨fun j l hj => by
    have hjl : j < 1 + n := by
      have := (List.getElem?_eq_some_iff.1 hj).1
      rw [hnn.out]; simp at this; omega
    have h1 := hown.out.cellAt j (by omega)
    rw [Nat.zero_add, h1]
    match j, hj with
    | 0, hj => simp at hj; subst hj; rfl
    | j + 1, hj =>
      simp at hj
      simp [hj], hlt.out⟩
  have hB2 : Below w.heap.size w w2 := (b1.out.alloc b1.out.size _).grown hgrow.out (by have := b1.out.size; simp; omega) (fun g hg => by simp [Value.ownBlock] at hg; rw [← hg]; exact b1.out.size)
  replace hP2 := Lib.hid hP2; replace hB2 := Lib.hid hB2
  clear hown hgrow hat
  replace hlen := Lib.hid hlen
  go_wp2_with (first
    | (go_at_call 205; (with_reducible refine (hs1'.out _ _ _ hlen.out hP2.out (hT.out.keep hB2.out)).mono ?_); rintro e w3 ⟨rfl, b3⟩; replace hB2 := Lib.hid (belowCont hB2.out b3); clear b3)
    | (go_at_call 206; (with_reducible refine (hm2.out _ (hT.out.keep hB2.out)).mono ?_); rintro e w4 ⟨rfl, b4⟩; replace hB2 := Lib.hid (belowCont hB2.out b4); have hP4 := parts_two w4 M2 I; have hB4 := hB2.out.alloc hB2.out.size (.cells #[.string (str M2), .string (str I)] 9); replace hP4 := Lib.hid hP4; replace hB4 := Lib.hid hB4; clear b4)
    | (go_at_call 205; (with_reducible refine (hs2'.out _ _ hP4.out (hT.out.keep hB4.out)).mono ?_); rintro e w5 ⟨rfl, b5⟩; replace hB4 := Lib.hid (belowCont hB4.out b5)))
  go_ret
  exact ⟨rfl, hB4.out⟩
theorem tag_any (k s : List UInt8) (hk : k.length ≤ 1000000000) (hs : s.length ≤ 100000000) (w : World) (hT : SaltAt w salts) :
    Calls Tryd.prog 179 #[.string (str k), .string (str s)] w fun e w' => e = .returned (.string (str (tagL k s))) ∧ Below w.heap.size w w' := by
  have hP := parts_one w s
  have hB := (Below.refl _ w).alloc (Nat.le_refl w.heap.size) (.cells #[.string (str s)] 9)
  have ht : Calls Tryd.prog 180 #[.string (str k), .slice (some ⟨w.heap.size, 0, none⟩) 1 1] (w.alloc (.cells #[.string (str s)] 9)) fun e w' => e = .returned (.string (str (tagL k s))) ∧ Below (w.alloc (.cells #[.string (str s)] 9)).heap.size (w.alloc (.cells #[.string (str s)] 9)) w' := by
    have := tagOf_any k [s] w.heap.size 0 1 hk (by simp) (by simp) (by simpa using hs) _ hP (hT.keep hB)
    have e : [s].flatten = s := by simp
    rw [e] at this; exact this
  clear hP hT hk hs
  replace ht := Lib.hid ht
  replace hB := Lib.hid hB
  go_enter Tryd.func179, Tryd.ntmps179
  go_wp2_with (go_at_call 180; (with_reducible refine ht.out.mono ?_); rintro e w1 ⟨rfl, b1⟩; replace b1 := Lib.hid b1)
  go_ret
  exact ⟨rfl, belowCont hB.out b1.out⟩
theorem extract_any (k s : List UInt8) (hk : k.length ≤ 1000000000) (hs : s.length ≤ 100000000) (w : World) (hT : SaltAt w salts) :
    Calls Tryd.prog 127 #[.string (str k), .string (str s)] w fun e w' => e = .returned (.string (str (tagL k s))) ∧ Below w.heap.size w w' := by
  have ht := tag_any k s hk hs w hT
  clear hT hk hs
  replace ht := Lib.hid ht
  go_enter Tryd.func127, Tryd.ntmps127
  go_wp2_with (go_at_call 179; (with_reducible refine ht.out.mono ?_); rintro e w1 ⟨rfl, b1⟩; replace b1 := Lib.hid b1)
  go_ret
  exact ⟨rfl, b1.out⟩
end Go.Proofs.YtdhboldmffiklabDoor.sha
