/- The law of clones, whole: for every slice of changes and every change: a clone goes its own way, what is cleared is empty, none is nothing. No condition. -/
import Derived.Test.YtmfodnbhhfegeaaDelPlays
namespace Go.Proofs.Ytmfodnbhhfegeaa.delta
open Go.RowKit
attribute [local go_sem ↓] Go.wp_at_zero Go.wp_at_succ
set_option linter.unusedVariables false
set_option maxRecDepth 100000

/-- keys of two bytes at most -/
def Short (L : List Ch) : Prop := ∀ x ∈ L, x.k.size ≤ 2
theorem put_short (c : Ch) (L : List Ch) (h : Short L) (hk : c.k.size ≤ 2) : Short (putL c L) := fun x hx => by
  rcases put_mem c L x hx with rfl | hx
  · exact hk
  · exact h x hx
theorem cut_size (n : Nat) (s : ByteArray) : (cut n s).size ≤ n := by
  unfold cut
  rw [ByteArray.size_extract]
  omega
def zzz : ByteArray := ⟨#[122, 122, 122]⟩
theorem at_long (key : ByteArray) (L : List Ch) (h : Short L) (hk : 3 ≤ key.size) : atB key L = false := by
  unfold atB
  cases q : L[pos key L]? with
  | none => rfl
  | some x => exact eqB_no fun e => by have := h x (List.mem_of_getElem? q); rw [e] at this; omega
theorem put_more (c : Ch) (L : List Ch) (h : atB c.k L = false) : (putL c L).length = L.length + 1 := by
  have hp := pos_le c.k L
  rw [put_new c L h]; simp; omega
theorem field_key (W : World) (a b : ByteArray) (c : Bool) : (Instr.field 93 (.agg #[.string a, .string b, .bool c]) 0).run Try.prog W = .ok (.string a) W := by kernel_rfl
set_option maxHeartbeats 8000000 in
theorem deltaClones_walk (a0 : Option Addr) (len0 cap0 : Nat) (a1_0 : ByteArray) (a1_1 : ByteArray) (a1_2 : Bool) (w : World) (w0 : SliceArg w a0 len0 3 (fun j v => match j with | 0 => ∃ x, v = .string x ∧ x.size ≤ maxLen | 1 => ∃ x, v = .string x ∧ x.size ≤ maxLen | 2 => ∃ x, v = .bool x | _ => False)) (w1_0 : a1_0.size ≤ maxLen) (w1_1 : a1_1.size ≤ maxLen) :
    Calls Try.prog 10 #[.slice a0 len0 cap0, .agg #[.string a1_0, .string a1_1, .bool a1_2]] w fun e w' => e = .returned (.bool true) ∧ Below w.heap.size w w' := by
  obtain ⟨K, hK⟩ : ∃ K, K = min len0 30 := ⟨_, rfl⟩
  obtain ⟨X, hX, hR⟩ := argCh w0 K (by omega)
  have hl63 := w0.1
  have hK60 : K ≤ 30 := by omega
  have hKl : K ≤ len0 := by omega
  have hKe : K = len0 ∨ K = 30 := by omega
  clear hK
  have hp0 := (Hp.none_ w []).alloc #[.string a1_0, .string a1_1, .bool a1_2] 93
  have hnew := Lib.hid (new_hp hp0)
  replace hX := Lib.hid hX; replace hR := Lib.hid hR
  have hfew1 := fun W => few_any ⟨a1_0, a1_1, a1_2⟩ w1_0 w1_1 W
  obtain ⟨C, hC⟩ : ∃ C, C = fewC ⟨a1_0, a1_1, a1_2⟩ := ⟨_, rfl⟩
  have hCs : C.k.size ≤ 2 := by rw [hC]; exact cut_size 2 _
  rw [← hC] at hfew1
  unfold Ch.a at hfew1
  obtain ⟨Ck, Cv, Cg⟩ := C
  simp only at hfew1 hCs
  replace hfew1 := Lib.hid hfew1
  clear w0 w1_0 w1_1 hC hp0
  go_enter Try.func10, Try.ntmps10
  go_wp2_with (go_at_call 47; (with_reducible refine (hnew.out).mono ?_); rintro e w1 ⟨d, rfl, h1⟩; have hp := Lib.hid h1; clear h1)
  go_loopw [6] (fun s6 wr => ∃ (i : Nat) (L : List Ch), s6 = .int .i64 (i : Int) ∧ i ≤ K ∧ L.length ≤ i ∧ Srt L ∧ Short L ∧ Hp w [] [del d L, .box w.heap.size #[.string a1_0, .string a1_1, .bool a1_2] 93] wr) (fun s6 _ => K - (intOf s6).toNat)
  case atStart => exact ⟨0, [], rfl, by omega, by simp, by simp [Srt], fun x hx => by simp at hx, hp.out⟩
  case round =>
    clear hp
    obtain ⟨i, L, rfl, hi, hLi, hs, hsh, hp⟩ := hrel
    by_cases hlt : i < K
    · have g1 : (i : Int) < (len0 : Int) := by omega
      have g2 : (i : Int) < 30 := by omega
      have g3 : (0 : Int) ≤ (i : Int) := by omega
      obtain ⟨x, hx⟩ : ∃ x, X[i]? = some x := ⟨_, List.getElem?_eq_getElem (by have := hX.out; omega)⟩
      obtain ⟨hwf, b, o, rfl, hbw, c0, c1, c2⟩ := hR.out i x hx
      have d0 := (hp.bel.cell (p := ⟨b, o + i * 3, none⟩) hbw).trans c0
      have d1 := (hp.bel.cell (p := ⟨b, o + i * 3 + 1, none⟩) hbw).trans c1
      have d2 := (hp.bel.cell (p := ⟨b, o + i * 3 + 2, none⟩) hbw).trans c2
      have hfew := fun W => few_any x hwf.1 hwf.2 W
      obtain ⟨xk, xv, xg⟩ := x
      obtain ⟨c, hc⟩ : ∃ c, c = fewC ⟨xk, xv, xg⟩ := ⟨_, rfl⟩
      have hcs : c.k.size ≤ 2 := by rw [hc]; exact cut_size 2 _
      rw [← hc] at hfew
      unfold Ch.a at hfew
      simp only at hfew d0 d1 d2
      clear hc c0 c1 c2 hx hwf hbw
      obtain ⟨ck, cv, cg⟩ := c
      simp only at hfew hcs
      have hL2 : L.length ≤ 90000 := by omega
      have hput : ∀ W rs (h : Hp w [] rs W) (hi : rs[0]? = some (del d L)), Calls Try.prog 49 #[.pointer (some ⟨d, 0, none⟩), .agg #[.string ck, .string cv, .bool cg]] W fun e w' => e = .returned (.tuple #[]) ∧ ∃ L', L'.length ≤ L.length + 1 ∧ Srt L' ∧ Short L' ∧ Hp w [] (rs.set 0 (del d L')) w' := fun W rs h hi => by
        cases hk : eqB ck ⟨#[]⟩ with
        | true =>
          refine (put_empty d ⟨ck, cv, cg⟩ W hk).mono ?_
          rintro e w' ⟨rfl, hb⟩
          refine ⟨rfl, L, by omega, hs, hsh, ?_⟩
          have e : rs.set 0 (del d L) = rs := by
            cases rs with
            | nil => rfl
            | cons r t => simp at hi; simp [hi]
          rw [e]; exact h.below hb
        | false =>
          refine (put_hp h hi ⟨ck, cv, cg⟩ hs hL2 hk).mono ?_
          rintro e w' ⟨rfl, h2⟩
          exact ⟨rfl, _, put_len _ _, put_srt _ _ hs, put_short _ _ hsh hcs, h2⟩
      replace hfew := Lib.hid hfew; replace hp := Lib.hid hp; replace hput := Lib.hid hput
      clear hL2 hcs hs hsh
      go_wp2_with (first
        | (go_at_call 48; (with_reducible refine (hfew.out _).mono ?_); rintro e w1 ⟨rfl, b1⟩; replace hp := Lib.hid (hp.out.below b1); clear b1)
        | (go_at_call 49; (with_reducible refine (hput.out _ _ hp.out rfl).mono ?_); rintro e w2 ⟨rfl, L', hl', hs', hsh', h2⟩; replace hp := Lib.hid h2; clear h2; replace hl' := Lib.hid hl'; replace hs' := Lib.hid hs'; replace hsh' := Lib.hid hsh'))
      go_roundw
      case rel => exact ⟨i + 1, L', by go_num, by omega, by have := hl'.out; omega, hs'.out, hsh'.out, hp.out⟩
      case measure => simp [intOf]; omega
    · obtain rfl : i = K := by omega
      have hgl : decide ((i : Int) < (len0 : Int)) = false ∨ ((i : Int) < (len0 : Int) ∧ decide ((i : Int) < 30) = false) := by
        by_cases h5 : (i : Int) < (len0 : Int)
        · right; exact ⟨h5, by simp; omega⟩
        · left; simpa using h5
      have hLs : L.length ≤ 90000 := by omega
      have hLs2 : L.length ≤ 100000 := by omega
      have hz3 : 3 ≤ (zzz ++ Ck).size := by rw [ByteArray.size_append]; show 3 ≤ 3 + Ck.size; omega
      have hzn : eqB (zzz ++ Ck) ⟨#[]⟩ = false := eqB_no fun e => by rw [e] at hz3; have h9 : (⟨#[]⟩ : ByteArray).size = 0 := rfl; omega
      obtain ⟨L2, hL2⟩ : ∃ L2, L2 = putL ⟨zzz ++ Ck, a1_1, false⟩ L := ⟨_, rfl⟩
      have hL2l : L2.length = L.length + 1 := by rw [hL2]; exact put_more _ _ (at_long _ _ hsh hz3)
      have hput2 : ∀ W rs k (h : Hp w [] rs W) (hi : rs[0]? = some (del k L)), Calls Try.prog 49 #[.pointer (some ⟨k, 0, none⟩), .agg #[.string (zzz ++ Ck), .string a1_1, .bool false]] W fun e w' => e = .returned (.tuple #[]) ∧ Hp w [] (rs.set 0 (del k L2)) w' := fun W rs k h hi => by
        rw [hL2]; exact put_hp h hi ⟨zzz ++ Ck, a1_1, false⟩ hs hLs hzn
      have hadd : ∀ W, (Op.stringOp .add ⟨#[122, 122, 122]⟩ Ck).run Try.prog W = .ok (.string (zzz ++ Ck)) W := fun W => run_string_add_sum W _ _ (by show 3 + Ck.size ≤ _; omega)
      obtain ⟨n, hln⟩ : ∃ n, n = L.length := ⟨_, rfl⟩
      have hall : ∀ W rs j (h : Hp w [] rs W) (hi : rs[j]? = some (del d L)), Calls Try.prog 55 #[.pointer (some ⟨d, 0, none⟩)] W fun e w' => ∃ v', e = .returned v' ∧ (∃ ad cp, v' = .slice ad L.length cp) ∧ Hp w [] (.row 93 3 v' L.length (chC L) :: rs) w' := fun W rs j h hi => all_hp h hi hs hLs2
      have hdcl : ∀ W rs j (h : Hp w [] rs W) (hi : rs[j]? = some (del d L)), Calls Try.prog 57 #[.pointer (some ⟨d, 0, none⟩)] W fun e w' => ∃ k, e = .returned (.pointer (some ⟨k, 0, none⟩)) ∧ Hp w [] (del k L :: rs) w' := fun W rs j h hi => dclone_hp h hi hs hLs2
      have hsam : ∀ W (v u : Value), Sl W v L.length (chC L) → Sl W u L.length (chC L) → Calls Try.prog 54 #[v, u] W fun e w' => e = .returned (.bool true) ∧ Below W.heap.size W w' := fun W v u h h' => same_eq v u L W h h' (by omega)
      have hclr : ∀ W rs j (h : Hp w [] rs W) (hi : rs[j]? = some (del d L)), Calls Try.prog 58 #[.pointer (some ⟨d, 0, none⟩)] W fun e w' => e = .returned (.tuple #[]) ∧ Hp w [] (rs.set j (del d [])) w' := fun W rs j h hi => clear_hp h hi
      have hlen2 : ∀ W rs j k (h : Hp w [] rs W) (hi : rs[j]? = some (del k L2)), Calls Try.prog 52 #[.pointer (some ⟨k, 0, none⟩)] W fun e w' => e = .returned (.int .i64 ((L.length : Int) + 1)) ∧ w' = W := fun W rs j k h hi => by
        have := len_hp h hi
        rw [hL2l] at this; exact this
      have hlen0 : ∀ W rs j (h : Hp w [] rs W) (hi : rs[j]? = some (del d [])), Calls Try.prog 52 #[.pointer (some ⟨d, 0, none⟩)] W fun e w' => e = .returned (.int .i64 0) ∧ w' = W := fun W rs j h hi => len_hp h hi
      have hputn : ∀ W, Calls Try.prog 49 #[.pointer none, .agg #[.string a1_0, .string a1_1, .bool a1_2]] W fun e w' => e = .returned (.tuple #[]) ∧ Below W.heap.size W w' := fun W => put_nil ⟨a1_0, a1_1, a1_2⟩ W
      have hlk : ∀ W k, W.heap[k]? = some (.cells #[.slice none 0 0] 144 (0, 0)) → Calls Try.prog 52 #[.pointer (some ⟨k, 0, none⟩)] W fun e w' => e = .returned (.int .i64 0) ∧ w' = W := fun W k h => len_any k 0 0 none W h
      have haw := fun W => awake_any W
      have hfk := fun W => field_key W Ck Cv Cg
      have hnS := Lib.hid (show n ≤ 140737488355328 by omega)
      have hw1 : IntKind.i64.wrap ((n : Int) + 1) = (n : Int) + 1 := IntWalk.i64_in _ (by omega)
      rw [← hln] at hall hsam hlen2
      replace hput2 := Lib.hid hput2; replace hall := Lib.hid hall; replace hdcl := Lib.hid hdcl; replace hsam := Lib.hid hsam; replace hclr := Lib.hid hclr; replace hlen2 := Lib.hid hlen2; replace hlen0 := Lib.hid hlen0; replace hputn := Lib.hid hputn; replace hlk := Lib.hid hlk; replace haw := Lib.hid haw
      replace hp := Lib.hid hp
      have hn30 : n ≤ 30 := by omega
      clear hX hR hKe hKl hK60 hLi hs hsh hLs hLs2 hz3 hzn hL2 hL2l hln hCs
      rcases hgl with g1 | ⟨g1, g2⟩
      case inl =>
        have g1' : decide (i < len0) = false := by simpa using g1
        go_upto_region 8 with (first
          | (go_at_call 55; (with_reducible refine (hall.out _ _ 0 hp.out rfl).mono ?_); rintro e w7 ⟨v7, rfl, ⟨ad7, cp7, rfl⟩, h7⟩; replace hp := Lib.hid h7; clear h7)
          | (go_at_call 57; (with_reducible refine (hdcl.out _ _ 1 hp.out rfl).mono ?_); rintro e w8 ⟨k, rfl, h7⟩; replace hp := Lib.hid h7; clear h7))
        have x0 := hp.out.cell (i := 3) rfl 0; have x1 := hp.out.cell (i := 3) rfl 1; have x2 := hp.out.cell (i := 3) rfl 2
        simp at x0 x1 x2
        replace hp := Lib.hid hp.out.drew
        refine wp_region_noPanic ?_; refine wp_region_held_drew (S := (fun W' => W'.cell? ⟨w.heap.size, 0, none⟩ = some (.string a1_0) ∧ W'.cell? ⟨w.heap.size, 1, none⟩ = some (.string a1_1) ∧ W'.cell? ⟨w.heap.size, 2, none⟩ = some (.bool a1_2))) (by kernel_rfl) ?_ (fun hHeld => ?_); (focus ((try dsimp only); (first | exact ⟨x0, x1, x2⟩ | exact ⟨hp.out.cell (i := 3) rfl 0, hp.out.cell (i := 3) rfl 1, hp.out.cell (i := 3) rfl 2⟩); done)); (refine take_t (i := 0) (d := 34) (oi := _) (v := ?_) rfl rfl (by kernel_rfl) (by kernel_rfl) (by kernel_rfl) (by rfl) ?_ (by assumption) ?_; rotate_left; (focus (intro w0 hSw; (try dsimp only at hSw); go_simp; (try with_reducible rfl); done)); try simp only [Act.put, List.setIfInBounds_toArray, List.set_cons_zero, List.set_cons_succ]); (refine take_t (i := 1) (d := 35) (oi := _) (v := ?_) rfl rfl (by kernel_rfl) (by kernel_rfl) (by kernel_rfl) (by rfl) ?_ (by assumption) ?_; rotate_left; (focus (intro w0 hSw; (try dsimp only at hSw); go_simp; (try with_reducible rfl); done)); try simp only [Act.put, List.setIfInBounds_toArray, List.set_cons_zero, List.set_cons_succ]); (refine take_t (i := 5) (d := 39) (oi := _) (v := ?_) rfl rfl (by kernel_rfl) (by kernel_rfl) (by kernel_rfl) (by rfl) ?_ (by assumption) ?_; rotate_left; (focus (intro w0 hSw; (try dsimp only at hSw); go_simp; (try with_reducible rfl); done)); try simp only [Act.put, List.setIfInBounds_toArray, List.set_cons_zero, List.set_cons_succ]); (refine take_t (i := 6) (d := 40) (oi := _) (v := ?_) rfl rfl (by kernel_rfl) (by kernel_rfl) (by kernel_rfl) (by rfl) ?_ (by assumption) ?_; rotate_left; (focus (intro w0 hSw; (try dsimp only at hSw); go_simp; (try with_reducible rfl); done)); try simp only [Act.put, List.setIfInBounds_toArray, List.set_cons_zero, List.set_cons_succ]); (refine wpAnyH_ready (rs := [2]) (by kernel_rfl) (by simp) ?_; refine AllReadyH.cons (o := _) rfl (fun K' hK => ?_) AllReadyH.nil; go_simp; (go_at_call 48; (with_reducible refine (hfew1.out _).mono ?_); rintro e' w9 ⟨rfl, b9⟩; replace hp := Lib.hid (hp.out.below b9); clear b9); (try dsimp only); refine hK.out _ _ ?_ (fun hHeld2 => ?_); (focus ((try dsimp only); (first | exact ⟨x0, x1, x2⟩ | exact ⟨hp.out.cell (i := 3) rfl 0, hp.out.cell (i := 3) rfl 1, hp.out.cell (i := 3) rfl 2⟩); done)); clear hK K'; clear hHeld; have hHeld := hHeld2; clear hHeld2; try simp only [Act.put, List.setIfInBounds_toArray, List.set_cons_zero, List.set_cons_succ]); (refine take_t (i := 3) (d := 37) (oi := _) (v := ?_) rfl rfl (by kernel_rfl) (by kernel_rfl) (by kernel_rfl) (by rfl) ?_ (by assumption) ?_; rotate_left; (focus (intro w0 hSw; (try dsimp only at hSw); go_simp; (try with_reducible rfl); done)); try simp only [Act.put, List.setIfInBounds_toArray, List.set_cons_zero, List.set_cons_succ]); (refine take_t (i := 4) (d := 38) (oi := _) (v := ?_) rfl rfl (by kernel_rfl) (by kernel_rfl) (by kernel_rfl) (by rfl) ?_ (by assumption) ?_; rotate_left; (focus (intro w0 hSw; (try dsimp only at hSw); go_simp; (try with_reducible rfl); done)); try simp only [Act.put, List.setIfInBounds_toArray, List.set_cons_zero, List.set_cons_succ]); (refine take_t (i := 7) (d := 41) (oi := _) (v := ?_) rfl rfl (by kernel_rfl) (by kernel_rfl) (by kernel_rfl) (by rfl) ?_ (by assumption) ?_; rotate_left; (focus (intro w0 hSw; (try dsimp only at hSw); go_simp; (try with_reducible rfl); done)); try simp only [Act.put, List.setIfInBounds_toArray, List.set_cons_zero, List.set_cons_succ]); (refine wpAnyH_ready (rs := [8]) (by kernel_rfl) (by simp) ?_; refine AllReadyH.cons (o := _) rfl (fun K' hK => ?_) AllReadyH.nil; go_simp; (go_at_call 49; (with_reducible refine (hput2.out _ _ _ hp.out rfl).mono ?_); rintro e' w10 ⟨rfl, h7⟩; replace hp := Lib.hid h7; clear h7); (try dsimp only); refine hK.out _ _ ?_ (fun hHeld2 => ?_); (focus ((try dsimp only); (first | exact ⟨x0, x1, x2⟩ | exact ⟨hp.out.cell (i := 3) rfl 0, hp.out.cell (i := 3) rfl 1, hp.out.cell (i := 3) rfl 2⟩); done)); clear hK K'; clear hHeld; have hHeld := hHeld2; clear hHeld2; try simp only [Act.put, List.setIfInBounds_toArray, List.set_cons_zero, List.set_cons_succ]); refine wpAnyH_done (by kernel_rfl) ?_ _; refine NoPanic.normal ?_
        go_split_ands
        have y0 := hp.out.cell (i := 3) rfl 0; have y1 := hp.out.cell (i := 3) rfl 1; have y2 := hp.out.cell (i := 3) rfl 2
        simp at y0 y1 y2
        clear hfk hadd
        go_upto_region 11 with (first
          | (go_at_call 53; (with_reducible refine (haw.out _).mono ?_); rintro e w7 ⟨rfl, b7⟩; replace hp := Lib.hid (hp.out.below b7); clear b7)
          | (go_at_call 55; (with_reducible refine (hall.out _ _ 2 hp.out rfl).mono ?_); rintro e w7 ⟨v7, rfl, ⟨ad8, cp8, rfl⟩, h7⟩; replace hp := Lib.hid h7; clear h7)
          | (go_at_call 54; (with_reducible refine (hsam.out _ _ _ (hp.out.sl (i := 0) rfl hnS.out) (hp.out.sl (i := 2) rfl hnS.out)).mono ?_); rintro e w7 ⟨rfl, b7⟩; replace hp := Lib.hid (hp.out.below b7); clear b7)
          | (go_at_call 52; (with_reducible refine (hlen2.out _ _ 1 _ hp.out rfl).mono ?_); rintro e w7 ⟨rfl, rfl⟩))
        have y0 := hp.out.cell (i := 4) rfl 0; have y1 := hp.out.cell (i := 4) rfl 1; have y2 := hp.out.cell (i := 4) rfl 2
        simp at y0 y1 y2
        go_wp2_with (first
          | (go_at_call 58; (with_reducible refine (hclr.out _ _ 3 hp.out rfl).mono ?_); rintro e w7 ⟨rfl, h7⟩; replace hp := Lib.hid h7; clear h7; have y0 := hp.out.cell (i := 4) rfl 0; have y1 := hp.out.cell (i := 4) rfl 1; have y2 := hp.out.cell (i := 4) rfl 2; simp at y0 y1 y2)
          | (go_at_call 49; (with_reducible refine (hputn.out _).mono ?_); rintro e w7 ⟨rfl, b7⟩; replace hp := Lib.hid (hp.out.below b7); clear b7; have y0 := hp.out.cell (i := 4) rfl 0; have y1 := hp.out.cell (i := 4) rfl 1; have y2 := hp.out.cell (i := 4) rfl 2; simp at y0 y1 y2)
          | (go_at_call 58; (with_reducible refine (clear_nil _).mono ?_); rintro e w7 ⟨rfl, rfl⟩)
          | (go_at_call 51; (with_reducible refine (get_nil _ _).mono ?_); rintro e w7 ⟨rfl, b7⟩; replace hp := Lib.hid ((hp.out.below b7).alloc #[.string ⟨#[]⟩, .string ⟨#[]⟩, .bool false] 93); clear b7)
          | (go_at_call 52; (with_reducible refine (hlen0.out _ _ 4 hp.out rfl).mono ?_); rintro e w7 ⟨rfl, rfl⟩)
          | (go_at_call 52; (with_reducible refine (hlen2.out _ _ 2 _ hp.out rfl).mono ?_); rintro e w7 ⟨rfl, rfl⟩)
          | (go_at_call 52; (with_reducible refine (len_nil _).mono ?_); rintro e w7 ⟨rfl, rfl⟩)
          | (go_at_call 55; (with_reducible refine (all_nil _).mono ?_); rintro e w7 ⟨rfl, rfl⟩)
          | (go_at_call 57; (with_reducible refine (dclone_nil _).mono ?_); rintro e w7 ⟨kk, rfl, hkk, b7⟩; replace hkk := Lib.hid hkk; replace hp := Lib.hid (hp.out.below b7); clear b7)
          | (go_at_call 52; (with_reducible refine (hlk.out _ _ hkk.out).mono ?_); rintro e w7 ⟨rfl, rfl⟩))
        go_ret
        exact ⟨rfl, hp.out.bel⟩
      case inr =>
        go_upto_region 8 with (first
          | (go_at_call 55; (with_reducible refine (hall.out _ _ 0 hp.out rfl).mono ?_); rintro e w7 ⟨v7, rfl, ⟨ad7, cp7, rfl⟩, h7⟩; replace hp := Lib.hid h7; clear h7)
          | (go_at_call 57; (with_reducible refine (hdcl.out _ _ 1 hp.out rfl).mono ?_); rintro e w8 ⟨k, rfl, h7⟩; replace hp := Lib.hid h7; clear h7))
        have x0 := hp.out.cell (i := 3) rfl 0; have x1 := hp.out.cell (i := 3) rfl 1; have x2 := hp.out.cell (i := 3) rfl 2
        simp at x0 x1 x2
        replace hp := Lib.hid hp.out.drew
        refine wp_region_noPanic ?_; refine wp_region_held_drew (S := (fun W' => W'.cell? ⟨w.heap.size, 0, none⟩ = some (.string a1_0) ∧ W'.cell? ⟨w.heap.size, 1, none⟩ = some (.string a1_1) ∧ W'.cell? ⟨w.heap.size, 2, none⟩ = some (.bool a1_2))) (by kernel_rfl) ?_ (fun hHeld => ?_); (focus ((try dsimp only); (first | exact ⟨x0, x1, x2⟩ | exact ⟨hp.out.cell (i := 3) rfl 0, hp.out.cell (i := 3) rfl 1, hp.out.cell (i := 3) rfl 2⟩); done)); (refine take_t (i := 0) (d := 34) (oi := _) (v := ?_) rfl rfl (by kernel_rfl) (by kernel_rfl) (by kernel_rfl) (by rfl) ?_ (by assumption) ?_; rotate_left; (focus (intro w0 hSw; (try dsimp only at hSw); go_simp; (try with_reducible rfl); done)); try simp only [Act.put, List.setIfInBounds_toArray, List.set_cons_zero, List.set_cons_succ]); (refine take_t (i := 1) (d := 35) (oi := _) (v := ?_) rfl rfl (by kernel_rfl) (by kernel_rfl) (by kernel_rfl) (by rfl) ?_ (by assumption) ?_; rotate_left; (focus (intro w0 hSw; (try dsimp only at hSw); go_simp; (try with_reducible rfl); done)); try simp only [Act.put, List.setIfInBounds_toArray, List.set_cons_zero, List.set_cons_succ]); (refine take_t (i := 5) (d := 39) (oi := _) (v := ?_) rfl rfl (by kernel_rfl) (by kernel_rfl) (by kernel_rfl) (by rfl) ?_ (by assumption) ?_; rotate_left; (focus (intro w0 hSw; (try dsimp only at hSw); go_simp; (try with_reducible rfl); done)); try simp only [Act.put, List.setIfInBounds_toArray, List.set_cons_zero, List.set_cons_succ]); (refine take_t (i := 6) (d := 40) (oi := _) (v := ?_) rfl rfl (by kernel_rfl) (by kernel_rfl) (by kernel_rfl) (by rfl) ?_ (by assumption) ?_; rotate_left; (focus (intro w0 hSw; (try dsimp only at hSw); go_simp; (try with_reducible rfl); done)); try simp only [Act.put, List.setIfInBounds_toArray, List.set_cons_zero, List.set_cons_succ]); (refine wpAnyH_ready (rs := [2]) (by kernel_rfl) (by simp) ?_; refine AllReadyH.cons (o := _) rfl (fun K' hK => ?_) AllReadyH.nil; go_simp; (go_at_call 48; (with_reducible refine (hfew1.out _).mono ?_); rintro e' w9 ⟨rfl, b9⟩; replace hp := Lib.hid (hp.out.below b9); clear b9); (try dsimp only); refine hK.out _ _ ?_ (fun hHeld2 => ?_); (focus ((try dsimp only); (first | exact ⟨x0, x1, x2⟩ | exact ⟨hp.out.cell (i := 3) rfl 0, hp.out.cell (i := 3) rfl 1, hp.out.cell (i := 3) rfl 2⟩); done)); clear hK K'; clear hHeld; have hHeld := hHeld2; clear hHeld2; try simp only [Act.put, List.setIfInBounds_toArray, List.set_cons_zero, List.set_cons_succ]); (refine take_t (i := 3) (d := 37) (oi := _) (v := ?_) rfl rfl (by kernel_rfl) (by kernel_rfl) (by kernel_rfl) (by rfl) ?_ (by assumption) ?_; rotate_left; (focus (intro w0 hSw; (try dsimp only at hSw); go_simp; (try with_reducible rfl); done)); try simp only [Act.put, List.setIfInBounds_toArray, List.set_cons_zero, List.set_cons_succ]); (refine take_t (i := 4) (d := 38) (oi := _) (v := ?_) rfl rfl (by kernel_rfl) (by kernel_rfl) (by kernel_rfl) (by rfl) ?_ (by assumption) ?_; rotate_left; (focus (intro w0 hSw; (try dsimp only at hSw); go_simp; (try with_reducible rfl); done)); try simp only [Act.put, List.setIfInBounds_toArray, List.set_cons_zero, List.set_cons_succ]); (refine take_t (i := 7) (d := 41) (oi := _) (v := ?_) rfl rfl (by kernel_rfl) (by kernel_rfl) (by kernel_rfl) (by rfl) ?_ (by assumption) ?_; rotate_left; (focus (intro w0 hSw; (try dsimp only at hSw); go_simp; (try with_reducible rfl); done)); try simp only [Act.put, List.setIfInBounds_toArray, List.set_cons_zero, List.set_cons_succ]); (refine wpAnyH_ready (rs := [8]) (by kernel_rfl) (by simp) ?_; refine AllReadyH.cons (o := _) rfl (fun K' hK => ?_) AllReadyH.nil; go_simp; (go_at_call 49; (with_reducible refine (hput2.out _ _ _ hp.out rfl).mono ?_); rintro e' w10 ⟨rfl, h7⟩; replace hp := Lib.hid h7; clear h7); (try dsimp only); refine hK.out _ _ ?_ (fun hHeld2 => ?_); (focus ((try dsimp only); (first | exact ⟨x0, x1, x2⟩ | exact ⟨hp.out.cell (i := 3) rfl 0, hp.out.cell (i := 3) rfl 1, hp.out.cell (i := 3) rfl 2⟩); done)); clear hK K'; clear hHeld; have hHeld := hHeld2; clear hHeld2; try simp only [Act.put, List.setIfInBounds_toArray, List.set_cons_zero, List.set_cons_succ]); refine wpAnyH_done (by kernel_rfl) ?_ _; refine NoPanic.normal ?_
        go_split_ands
        have y0 := hp.out.cell (i := 3) rfl 0; have y1 := hp.out.cell (i := 3) rfl 1; have y2 := hp.out.cell (i := 3) rfl 2
        simp at y0 y1 y2
        clear hfk hadd
        go_upto_region 11 with (first
          | (go_at_call 53; (with_reducible refine (haw.out _).mono ?_); rintro e w7 ⟨rfl, b7⟩; replace hp := Lib.hid (hp.out.below b7); clear b7)
          | (go_at_call 55; (with_reducible refine (hall.out _ _ 2 hp.out rfl).mono ?_); rintro e w7 ⟨v7, rfl, ⟨ad8, cp8, rfl⟩, h7⟩; replace hp := Lib.hid h7; clear h7)
          | (go_at_call 54; (with_reducible refine (hsam.out _ _ _ (hp.out.sl (i := 0) rfl hnS.out) (hp.out.sl (i := 2) rfl hnS.out)).mono ?_); rintro e w7 ⟨rfl, b7⟩; replace hp := Lib.hid (hp.out.below b7); clear b7)
          | (go_at_call 52; (with_reducible refine (hlen2.out _ _ 1 _ hp.out rfl).mono ?_); rintro e w7 ⟨rfl, rfl⟩))
        have y0 := hp.out.cell (i := 4) rfl 0; have y1 := hp.out.cell (i := 4) rfl 1; have y2 := hp.out.cell (i := 4) rfl 2
        simp at y0 y1 y2
        go_wp2_with (first
          | (go_at_call 58; (with_reducible refine (hclr.out _ _ 3 hp.out rfl).mono ?_); rintro e w7 ⟨rfl, h7⟩; replace hp := Lib.hid h7; clear h7; have y0 := hp.out.cell (i := 4) rfl 0; have y1 := hp.out.cell (i := 4) rfl 1; have y2 := hp.out.cell (i := 4) rfl 2; simp at y0 y1 y2)
          | (go_at_call 49; (with_reducible refine (hputn.out _).mono ?_); rintro e w7 ⟨rfl, b7⟩; replace hp := Lib.hid (hp.out.below b7); clear b7; have y0 := hp.out.cell (i := 4) rfl 0; have y1 := hp.out.cell (i := 4) rfl 1; have y2 := hp.out.cell (i := 4) rfl 2; simp at y0 y1 y2)
          | (go_at_call 58; (with_reducible refine (clear_nil _).mono ?_); rintro e w7 ⟨rfl, rfl⟩)
          | (go_at_call 51; (with_reducible refine (get_nil _ _).mono ?_); rintro e w7 ⟨rfl, b7⟩; replace hp := Lib.hid ((hp.out.below b7).alloc #[.string ⟨#[]⟩, .string ⟨#[]⟩, .bool false] 93); clear b7)
          | (go_at_call 52; (with_reducible refine (hlen0.out _ _ 4 hp.out rfl).mono ?_); rintro e w7 ⟨rfl, rfl⟩)
          | (go_at_call 52; (with_reducible refine (hlen2.out _ _ 2 _ hp.out rfl).mono ?_); rintro e w7 ⟨rfl, rfl⟩)
          | (go_at_call 52; (with_reducible refine (len_nil _).mono ?_); rintro e w7 ⟨rfl, rfl⟩)
          | (go_at_call 55; (with_reducible refine (all_nil _).mono ?_); rintro e w7 ⟨rfl, rfl⟩)
          | (go_at_call 57; (with_reducible refine (dclone_nil _).mono ?_); rintro e w7 ⟨kk, rfl, hkk, b7⟩; replace hkk := Lib.hid hkk; replace hp := Lib.hid (hp.out.below b7); clear b7)
          | (go_at_call 52; (with_reducible refine (hlk.out _ _ hkk.out).mono ?_); rintro e w7 ⟨rfl, rfl⟩))
        go_ret
        exact ⟨rfl, hp.out.bel⟩
end Go.Proofs.Ytmfodnbhhfegeaa.delta
