/- Names out of bytes (Get). No condition. -/
import Derived.Test.YtdgpalileloekaaNames2
import Derived.Deep.CutBlock
namespace Go.Proofs.Ytdgpalileloekaa.names
open Go.RowKit
open code (numE rdC endE failE textE)
attribute [local go_sem ↓] Go.wp_at_zero Go.wp_at_succ
attribute [local go_sem] str_size str_bl
set_option linter.unusedVariables false
set_option maxRecDepth 100000

def nmLoop : Nat → List Nm → List UInt8 → List Nm × List UInt8 × Int
  | 0, acc, l => (acc, l, 0)
  | n + 1, acc, l =>
    let x := textE 20 l 0
    if x.2.2 ≠ 0 then (acc, x.2.1, x.2.2) else if x.1 ∈ acc ∨ mayN x.1 = false then (acc, [], 3) else nmLoop n (acc ++ [x.1]) x.2.1
def loopE (n : Nat) (acc : List Nm) (l : List UInt8) (e : Int) : List Nm × List UInt8 × Int := if e ≠ 0 then (acc, l, e) else nmLoop n acc l
def kindE (l : List UInt8) (e : Int) : List Nm × List UInt8 × Int := loopE (numE 64 l e).1 [] (numE 64 l e).2.1 (numE 64 l e).2.2
def kindsE : Nat → Nat → (Nat → List Nm) → List UInt8 → Int → (Nat → List Nm) × List UInt8 × Int
  | 0, k, L, l, e => (L, l, e)
  | f + 1, k, L, l, e => kindsE f (k + 1) (upd L k (kindE l e).1) (kindE l e).2.1 (kindE l e).2.2
def getN (s : List UInt8) : (Nat → List Nm) × Int :=
  ((kindsE 3 0 (fun _ => []) s 0).1, endE (kindsE 3 0 (fun _ => []) s 0).2.1 (kindsE 3 0 (fun _ => []) s 0).2.2)
theorem kindE_err (l : List UInt8) (e : Int) (h : e ≠ 0) : kindE l e = ([], l, e) := by
  unfold kindE numE loopE
  rw [if_neg h, if_pos h]
theorem kindsE_err : ∀ (f k : Nat) (L : Nat → List Nm) (l : List UInt8) (e : Int), e ≠ 0 → (kindsE f k L l e).2 = (l, e)
  | 0, k, L, l, e, h => rfl
  | f + 1, k, L, l, e, h => by
    unfold kindsE
    rw [kindE_err l e h]
    exact kindsE_err f (k + 1) _ l e h
theorem text_len (l : List UInt8) : (textE 20 l 0).1.length ≤ 20 := by
  unfold textE
  rw [if_pos rfl]
  unfold code.takeText
  simp only
  split
  · simp
  · rename_i h
    split
    · have := code.takeNum_le (min (max (20 : Int) 0) 65536).toNat l
      have h2 : (min (max (20 : Int) 0) 65536).toNat = 20 := by decide
      rw [h2] at this h ⊢
      rw [List.length_take]
      rcases this with h3 | h3
      · omega
      · exact absurd h3 h
    · simp
theorem loopE_zero (acc : List Nm) (l : List UInt8) (e : Int) : loopE 0 acc l e = (acc, l, e) := by
  unfold loopE
  split
  · rfl
  · rename_i h
    have h : e = 0 := by omega
    subst h; rfl
theorem upd_upd {α : Type} (f : Nat → α) (k : Nat) (x y : α) : upd (upd f k x) k y = upd f k y := by
  funext i; unfold upd; split <;> rfl
theorem upd_eq {α : Type} (f : Nat → α) (k : Nat) (x : α) (h : f k = x) : upd f k x = f := by
  funext i; unfold upd; split
  · rename_i h2; rw [h2, h]
  · rfl
theorem openA {w W : World} {X : List Nat} {g : Nat} {L : Nat → List Nm} {rs : List Rs} (h : Hp w X (nmT g L :: rs) W) : ∃ V, Hp w X (NmH g V L ++ rs) W := by
  obtain ⟨fps, h1, h2, h3, h4⟩ := h
  cases h1 with
  | cons ha hb =>
    obtain ⟨V, g1, g2, rfl, g4⟩ := ha
    rename_i bs
    refine ⟨V, [g] :: (V 0).ownBlock.toList :: (V 1).ownBlock.toList :: (V 2).ownBlock.toList :: bs, .cons ⟨g1, rfl⟩ (.cons ⟨g2 0 (by decide), rfl⟩ (.cons ⟨g2 1 (by decide), rfl⟩ (.cons ⟨g2 2 (by decide), rfl⟩ hb))), ?_, ?_, h4⟩
    · simpa using h2
    · simpa using h3
theorem shutA {w W : World} {X : List Nat} {g : Nat} {V : Nat → Value} {L : Nat → List Nm} {rs : List Rs} (h : Hp w X (NmH g V L ++ rs) W) : Hp w X (nmT g L :: rs) W := by
  obtain ⟨fps, h1, h2, h3, h4⟩ := h
  cases h1 with
  | cons ha hb =>
    cases hb with
    | cons hc hd =>
      cases hd with
      | cons he hf =>
        cases hf with
        | cons hg hh =>
          rename_i bs
          obtain ⟨ha1, rfl⟩ := ha
          obtain ⟨hc1, rfl⟩ := hc
          obtain ⟨he1, rfl⟩ := he
          obtain ⟨hg1, rfl⟩ := hg
          have e1 : ([g] :: (V 0).ownBlock.toList :: (V 1).ownBlock.toList :: (V 2).ownBlock.toList :: bs).flatten = (g :: ((V 0).ownBlock.toList ++ ((V 1).ownBlock.toList ++ (V 2).ownBlock.toList))) ++ bs.flatten := by simp
          rw [e1] at h2 h3
          refine ⟨(g :: ((V 0).ownBlock.toList ++ ((V 1).ownBlock.toList ++ (V 2).ownBlock.toList))) :: bs, .cons ⟨V, ha1, fun k hk => ?_, rfl, (List.nodup_append.1 h2).1⟩ hh, h2, h3, h4⟩
          match k, hk with
          | 0, _ => exact hc1
          | 1, _ => exact he1
          | 2, _ => exact hg1
theorem growA {w W : World} {X : List Nat} {g : Nat} {V : Nat → Value} {L : Nat → List Nm} {rs : List Rs} {k : Nat} (hk : k < 3) {v' : Value} {M : List Nm} {m : Nat} {zs : List Value}
    (h : Hp w X ((NmH g V L ++ rs).set (k + 1) (.row 9 1 v' m zs)) W) (hm : M.length = m) (hz : nmC M = zs) : Hp w X (nmT g (upd L k M) :: rs) (W.setCell ⟨g, k, none⟩ v') := by
  subst hm hz
  refine shutA (V := upd V k v') ?_
  match k, hk with
  | 0, _ => exact h.put (i := 0) rfl 0 v'
  | 1, _ => exact h.put (i := 0) rfl 1 v'
  | 2, _ => exact h.put (i := 0) rfl 2 v'
theorem nmh_atA {g : Nat} {V : Nat → Value} {L : Nat → List Nm} {rs : List Rs} {k : Nat} (hk : k < 3) : (NmH g V L ++ rs)[k + 1]? = some (.row 9 1 (V k) (L k).length (nmC (L k))) := by
  match k, hk with
  | 0, _ => rfl
  | 1, _ => rfl
  | 2, _ => rfl
theorem nmh_setA {g : Nat} {V : Nat → Value} {L : Nat → List Nm} {rs : List Rs} {k : Nat} {r : Rs} : ((NmH g V L ++ rs).set (k + 1) r)[0]? = some (.box g #[V 0, V 1, V 2] 101) := rfl
def GetRet (w : World) (r : (Nat → List Nm) × Int) (e : Ending) (w' : World) : Prop :=
  (r.2 ≠ 0 ∧ e = .returned (.tuple #[.pointer none, .int .i64 r.2]) ∧ Below w.heap.size w w') ∨ (r.2 = 0 ∧ ∃ g, e = .returned (.tuple #[.pointer (some ⟨g, 0, none⟩), .int .i64 0]) ∧ Hp w [] [nmT g r.1] w')
theorem endE_ne (l : List UInt8) (e : Int) (h : e ≠ 0) : endE l e = e := by
  unfold endE; rw [if_neg (by simp [h])]
set_option maxHeartbeats 8000000 in
theorem get_any (s : ByteArray) (w : World) : Calls Try.prog 27 #[.string s] w (GetRet w (getN s.data.toList)) := by
  obtain ⟨l0, rfl⟩ : ∃ l, s = str l := ⟨s.data.toList, (str_of _).symm⟩
  rw [str_toList]
  obtain ⟨R, hR⟩ : ∃ R, R = kindsE 3 0 (fun _ => []) l0 0 := ⟨_, rfl⟩
  obtain ⟨G, hG⟩ : ∃ G, G = getN l0 := ⟨_, rfl⟩
  have hG0 : G = (R.1, endE R.2.1 R.2.2) := by rw [hG]; unfold getN; rw [← hR]
  rw [← hG]
  clear hG
  have hbad : ∀ l e, R.2 = (l, e) → endE l e ≠ 0 → ∀ w', Below w.heap.size w w' → GetRet w G (.returned (.tuple #[.pointer none, .int .i64 (endE l e)])) w' := fun l e h1 h2 w' hb => by
    refine Or.inl ?_
    rw [hG0, h1]
    exact ⟨h2, rfl, hb⟩
  have hgood : ∀ L l, R = (L, l, 0) → endE l 0 = 0 → ∀ g w', Hp w [] [nmT g L] w' → GetRet w G (.returned (.tuple #[.pointer (some ⟨g, 0, none⟩), .int .i64 0])) w' := fun L l h1 h2 g w' hb => by
    refine Or.inr ?_
    rw [hG0, h1]
    exact ⟨h2, g, rfl, hb⟩
  have hrd := fun W => code.read_any (str l0) W
  rw [str_toList] at hrd
  have c0 := Lib.hid (new_hp (Hp.none_ w []))
  replace hrd := Lib.hid hrd; replace hR := Lib.hid hR; replace hbad := Lib.hid hbad; replace hgood := Lib.hid hgood
  clear hG0
  go_enter Try.func27, Try.ntmps27
  go_wp2
  go_step3
  go_wp2_with (first
      | (go_at_call 20; (with_reducible refine (c0.out).mono ?_); rintro e w1 ⟨d, rfl, h1⟩; have hp := Lib.hid h1; clear h1)
      | (go_at_call 46; (with_reducible refine (hrd.out _).mono ?_); rintro e w2 ⟨rfl, r1, b1⟩; replace hp := Lib.hid (hp.out.made r1 (Nat.le_refl _) b1); clear r1 b1))
  go_step3
  go_wp2
  clear c0 hrd
  generalize w1.heap.size = q at hp ⊢
  generalize w2 = W2 at hp ⊢
  change Hid (Hp w [] [.box q (rdC l0 0) 120, nmT d (fun _ => [])] W2) at hp
  clear w1
  go_loopg [14] 3 (fun gf s14 wr => ∃ (k : Nat) (L : Nat → List Nm) (l : List UInt8) (e : Int), s14 = .int .i64 (k : Int) ∧ k + gf = 3 ∧ Hp w [] [.box q (rdC l e) 120, nmT d L] wr ∧ R = kindsE gf k L l e ∧ ∀ i, k ≤ i → L i = [])
  case atStart => exact ⟨0, fun _ => [], l0, 0, rfl, by omega, hp.out, hR.out, fun _ _ => rfl⟩
  case round =>
    clear hp
    obtain ⟨k, L, l, e, rfl, hkf, hp, hRk, hL0⟩ := hrel
    replace hp := Lib.hid hp
    cases gk with
    | zero =>
      obtain rfl : k = 3 := by omega
      have hR3 : R = (L, l, e) := hRk
      have hend : ∀ W, W.heap[q]? = some (.cells (rdC l e) 120 (0, 0)) → Calls Try.prog 52 #[.pointer (some ⟨q, 0, none⟩)] W fun e' w' => e' = .returned (.int .i64 (endE l e)) ∧ Keeps [q] W w' := fun W h => code.end_step h
      by_cases he : endE l e = 0
      · have he0 : e = 0 := by
          unfold endE at he
          split at he
          · omega
          · exact he
        rw [he] at hend
        subst he0
        have hfin := fun w' => hgood.out L l hR3 he d w'
        replace hend := Lib.hid hend; replace hfin := Lib.hid hfin
        clear hL0 hRk hR3 he hbad hgood hR
        go_wp2_with (go_at_call 52; (with_reducible refine (hend.out _ (hp.out.box (i := 0) rfl)).mono ?_); rintro e w3 ⟨rfl, k3⟩; replace hp := Lib.hid (hp.out.lose (i := 0) rfl k3); clear k3)
        try rw [Exit.noGoto_ret]
        go_ret2
        exact hfin.out _ hp.out
      · have hfin := fun w' => hbad.out l e (by rw [hR3]) he w'
        obtain ⟨E, hE⟩ : ∃ E, E = endE l e := ⟨_, rfl⟩
        rw [← hE] at hend hfin he
        have t1 : (E == 0) = false := by simp [he]
        have t2 : (E != 0) = true := by simp [he]
        replace hend := Lib.hid hend; replace hfin := Lib.hid hfin
        clear hL0 hRk hR3 he hbad hgood hR hE
        go_wp2_with (go_at_call 52; (with_reducible refine (hend.out _ (hp.out.box (i := 0) rfl)).mono ?_); rintro e w3 ⟨rfl, k3⟩; replace hp := Lib.hid (hp.out.lose (i := 0) rfl k3); clear k3)
        try rw [Exit.noGoto_ret]
        go_ret2
        exact hfin.out _ hp.out.bel
    | succ f =>
      have hk3 : (k : Int) < 3 := by omega
      have hkn : k < 3 := by omega
      have hRf : R = kindsE f (k + 1) (upd L k (kindE l e).1) (kindE l e).2.1 (kindE l e).2.2 := hRk
      obtain ⟨m, hm⟩ : ∃ m, m = numE 64 l e := ⟨_, rfl⟩
      have hnum : ∀ W, W.heap[q]? = some (.cells (rdC l e) 120 (0, 0)) → Calls Try.prog 48 #[.pointer (some ⟨q, 0, none⟩), .int .u64 64] W fun e w' => e = .returned (.int .u64 (m.1 : Int)) ∧ w'.heap[q]? = some (.cells (rdC m.2.1 m.2.2) 120 (0, 0)) ∧ Keeps [q] W w' := fun W h => by rw [hm]; exact code.num_step 64 (by decide) h
      have hm64 : m.1 ≤ 64 := by rw [hm]; exact code.numE_le _ _ _
      have hm0 : m.2.2 ≠ 0 → m.1 = 0 := by rw [hm]; exact code.numE_none _ _ _
      unfold kindE at hRf
      rw [← hm] at hRf
      obtain ⟨n, ml, me⟩ := m
      simp only at hnum hm64 hm0 hRf
      replace hRf := Lib.hid hRf; replace hnum := Lib.hid hnum; replace hm0 := Lib.hid hm0; replace hL0 := Lib.hid hL0; replace hkf := Lib.hid hkf
      clear hRk hm hR
      go_wp2_with (go_at_call 48; (with_reducible refine (hnum.out _ (hp.out.box (i := 0) rfl)).mono ?_); rintro e w3 ⟨rfl, r1, q1⟩; replace hp := Lib.hid (hp.out.call (i := 0) rfl r1 q1); clear r1 q1)
      clear hnum
      go_loopg [19] n (fun gj s19 wr => ∃ (j : Nat) (acc : List Nm) (l1 : List UInt8) (e1 : Int), s19 = .int .u64 (j : Int) ∧ j + gj = n ∧ acc.length ≤ j ∧ Hp w [] [nmT d (upd L k acc), .box q (rdC l1 e1) 120] wr ∧ (gj ≠ 0 → e1 = 0) ∧ R = kindsE f (k + 1) (upd L k (loopE gj acc l1 e1).1) (loopE gj acc l1 e1).2.1 (loopE gj acc l1 e1).2.2)
      case atStart => exact ⟨0, [], ml, me, rfl, by omega, by simp, (by rw [upd_eq L k [] (hL0.out k (Nat.le_refl _))]; exact hp.out.perm (List.Perm.swap _ _ _)), fun h => by (by_cases h0 : me = 0; exact h0; exact absurd (hm0.out h0) h), hRf.out⟩
      case round =>
        clear hp
        obtain ⟨j, acc, l1, e1, rfl, hjn, hal, hp, hz, hRR⟩ := hrel
        replace hp := Lib.hid hp
        rename_i f0
        cases gk with
        | zero =>
          rw [loopE_zero] at hRR
          have hjlt : ¬ ((j : Int) < (n : Int)) := by omega
          replace hRR := Lib.hid hRR
          clear hz
          go_wp2_with fail
          go_roundg f
          case rel => exact ⟨k + 1, upd L k acc, l1, e1, by go_num, by have := hkf.out; omega, hp.out.perm (List.Perm.swap _ _ _), hRR.out, fun i hi => by rw [upd_ne _ _ _ _ (by omega)]; exact hL0.out i (by omega)⟩
          case measure => omega
        | succ g =>
          have h30 : (3 : Int) ≠ 0 := by decide
          have hz0 := hz (by omega)
          subst hz0
          obtain ⟨x, hx⟩ : ∃ x, x = textE 20 l1 0 := ⟨_, rfl⟩
          have htx : ∀ W, W.heap[q]? = some (.cells (rdC l1 0) 120 (0, 0)) → Calls Try.prog 49 #[.pointer (some ⟨q, 0, none⟩), .int .i64 20] W fun e w' => e = .returned (.string (str x.1)) ∧ w'.heap[q]? = some (.cells (rdC x.2.1 x.2.2) 120 (0, 0)) ∧ Keeps [q] W w' := fun W h => by rw [hx]; exact code.text_step 20 (by decide) (by decide) h
          have hxl : x.1.length ≤ 20 := by rw [hx]; exact text_len l1
          have hLo : loopE (g + 1) acc l1 0 = if x.2.2 ≠ 0 then (acc, x.2.1, x.2.2) else if x.1 ∈ acc ∨ mayN x.1 = false then (acc, [], 3) else nmLoop g (acc ++ [x.1]) x.2.1 := by
            unfold loopE; rw [if_neg (by simp), hx]; rfl
          obtain ⟨t, l2, e2⟩ := x
          simp only at htx hxl hLo
          have herr : ∀ W, W.heap[q]? = some (.cells (rdC l2 e2) 120 (0, 0)) → Calls Try.prog 51 #[.pointer (some ⟨q, 0, none⟩)] W fun e w' => e = .returned (.int .i64 e2) ∧ w'.heap[q]? = some (.cells (rdC l2 e2) 120 (0, 0)) ∧ Keeps [q] W w' := fun W h => code.err_step h
          have hjlt : (j : Int) < (n : Int) := by omega
          have hal64 : acc.length ≤ 64 := by omega
          replace htx := Lib.hid htx
          clear hx hz
          by_cases he2 : e2 = 0
          · subst he2
            rw [if_neg (by simp)] at hLo
            have hfind : ∀ W rs, Hp w [] rs W → rs[0]? = some (nmT d (upd L k acc)) → Calls Try.prog 24 #[.pointer (some ⟨d, 0, none⟩), .int .i64 (k : Int), .string (str t)] W fun e w' => e = .returned (.tuple #[.int .i64 (fdN acc t : Int), .bool (decide (t ∈ acc))]) ∧ w' = W := fun W rs h hi => by
              have := find_hp h (i := 0) hi k hkn t (by rw [upd_same]; omega)
              rwa [upd_same] at this
            have hmay := fun W => may_any t (by omega) W
            generalize fdN acc t = fd at hfind
            have hfl : ∀ W, W.heap[q]? = some (.cells (rdC l2 0) 120 (0, 0)) → Calls Try.prog 50 #[.pointer (some ⟨q, 0, none⟩), .int .i64 3] W fun e w' => e = .returned (.tuple #[]) ∧ w'.heap[q]? = some (.cells (rdC [] 3) 120 (0, 0)) ∧ Keeps [q] W w' := fun W h => code.fail_step 3 (by decide) h
            replace herr := Lib.hid herr; replace hfl := Lib.hid hfl
            by_cases hin : t ∈ acc
            · rw [if_pos (Or.inl hin)] at hLo
              have ed : decide (t ∈ acc) = true := by simp [hin]
              rw [ed] at hfind
              have hR2 : R.2 = ([], 3) := by rw [hRR, hLo]; exact kindsE_err _ _ _ _ _ h30
              have hend : ∀ W, W.heap[q]? = some (.cells (rdC [] 3) 120 (0, 0)) → Calls Try.prog 52 #[.pointer (some ⟨q, 0, none⟩)] W fun e' w' => e' = .returned (.int .i64 3) ∧ Keeps [q] W w' := fun W h => by have := code.end_step h; rwa [endE_ne _ _ (by decide)] at this
              have hfin := fun w' => hbad.out [] 3 hR2 (by rw [endE_ne _ _ (by decide)]; exact (by decide)) w'
              rw [endE_ne _ _ (by decide)] at hfin
              replace hfind := Lib.hid hfind; replace hend := Lib.hid hend; replace hfin := Lib.hid hfin
              clear hLo hRR hRf hR2 ed hin hal hmay hbad hgood
              go_wp2_with (first | (go_at_call 49; (with_reducible refine (htx.out _ (hp.out.box (i := 1) rfl)).mono ?_); rintro e w3 ⟨rfl, r1, q1⟩; replace hp := Lib.hid (hp.out.call (i := 1) rfl r1 q1); clear r1 q1) | (go_at_call 51; (with_reducible refine (herr.out _ (hp.out.box (i := 1) rfl)).mono ?_); rintro e w4 ⟨rfl, r1, q1⟩; replace hp := Lib.hid (hp.out.call (i := 1) rfl r1 q1); clear r1 q1) | (go_at_call 24; (with_reducible refine (hfind.out _ _ hp.out rfl).mono ?_); rintro e w5 ⟨rfl, rfl⟩) | (go_at_call 50; (with_reducible refine (hfl.out _ (hp.out.box (i := 1) rfl)).mono ?_); rintro e w7 ⟨rfl, r1, q1⟩; replace hp := Lib.hid (hp.out.call (i := 1) rfl r1 q1); clear r1 q1) | (go_at_call 52; (with_reducible refine (hend.out _ (hp.out.box (i := 1) rfl)).mono ?_); rintro e w8 ⟨rfl, k3⟩; replace hp := Lib.hid (hp.out.lose (i := 1) rfl k3); clear k3))
              try rw [Exit.noGoto_ret]
              go_ret2
              exact hfin.out _ hp.out.bel
            · have ed : decide (t ∈ acc) = false := by simp [hin]
              rw [ed] at hfind
              cases hmb : mayN t with
              | false =>
                rw [if_pos (Or.inr hmb)] at hLo
                rw [hmb] at hmay
                have hR2 : R.2 = ([], 3) := by rw [hRR, hLo]; exact kindsE_err _ _ _ _ _ h30
                have hend : ∀ W, W.heap[q]? = some (.cells (rdC [] 3) 120 (0, 0)) → Calls Try.prog 52 #[.pointer (some ⟨q, 0, none⟩)] W fun e' w' => e' = .returned (.int .i64 3) ∧ Keeps [q] W w' := fun W h => by have := code.end_step h; rwa [endE_ne _ _ (by decide)] at this
                have hfin := fun w' => hbad.out [] 3 hR2 (by rw [endE_ne _ _ (by decide)]; exact (by decide)) w'
                rw [endE_ne _ _ (by decide)] at hfin
                replace hfind := Lib.hid hfind; replace hend := Lib.hid hend; replace hfin := Lib.hid hfin; replace hmay := Lib.hid hmay
                clear hLo hRR hRf hR2 ed hin hal hbad hgood hmb
                go_wp2_with (first | (go_at_call 49; (with_reducible refine (htx.out _ (hp.out.box (i := 1) rfl)).mono ?_); rintro e w3 ⟨rfl, r1, q1⟩; replace hp := Lib.hid (hp.out.call (i := 1) rfl r1 q1); clear r1 q1) | (go_at_call 51; (with_reducible refine (herr.out _ (hp.out.box (i := 1) rfl)).mono ?_); rintro e w4 ⟨rfl, r1, q1⟩; replace hp := Lib.hid (hp.out.call (i := 1) rfl r1 q1); clear r1 q1) | (go_at_call 24; (with_reducible refine (hfind.out _ _ hp.out rfl).mono ?_); rintro e w5 ⟨rfl, rfl⟩) | (go_at_call 25; (with_reducible refine (hmay.out _).mono ?_); rintro e w6 ⟨rfl, b6⟩; replace hp := Lib.hid (hp.out.below b6); clear b6) | (go_at_call 50; (with_reducible refine (hfl.out _ (hp.out.box (i := 1) rfl)).mono ?_); rintro e w7 ⟨rfl, r1, q1⟩; replace hp := Lib.hid (hp.out.call (i := 1) rfl r1 q1); clear r1 q1) | (go_at_call 52; (with_reducible refine (hend.out _ (hp.out.box (i := 1) rfl)).mono ?_); rintro e w8 ⟨rfl, k3⟩; replace hp := Lib.hid (hp.out.lose (i := 1) rfl k3); clear k3))
                try rw [Exit.noGoto_ret]
                go_ret2
                exact hfin.out _ hp.out.bel
              | true =>
                rw [if_neg (by rintro (h | h); exact hin h; rw [hmb] at h; cases h)] at hLo
                rw [hmb] at hmay
                have hRn : R = kindsE f (k + 1) (upd L k (loopE g (acc ++ [t]) l2 0).1) (loopE g (acc ++ [t]) l2 0).2.1 (loopE g (acc ++ [t]) l2 0).2.2 := by
                  have e9 : loopE g (acc ++ [t]) l2 0 = nmLoop g (acc ++ [t]) l2 := by unfold loopE; rw [if_neg (by simp)]
                  rw [e9, ← hLo]; exact hRR
                replace hfind := Lib.hid hfind; replace hmay := Lib.hid hmay; replace hRn := Lib.hid hRn
                obtain ⟨n2, hln⟩ : ∃ n2, n2 = acc.length := ⟨_, rfl⟩
                obtain ⟨m, hl1'⟩ : ∃ m, n2 + 1 = m := ⟨_, rfl⟩
                have hl1 : (acc ++ [t]).length = m := by rw [List.length_append, ← hln, ← hl1']; rfl
                obtain ⟨zs, hl2⟩ : ∃ zs, nmC acc ++ [.string (str t)] = zs := ⟨_, rfl⟩
                have hl3 : nmC (acc ++ [t]) = zs := by rw [nmC_append, ← hl2]; rfl
                have hsl : ∀ W : World, Sl (W.alloc (.cells #[.string (str t)] 9)) (.slice (some ⟨W.heap.size, 0, none⟩) 1 1) 1 [.string (str t)] := fun W =>
                  ⟨_, _, rfl, by omega, Or.inr ⟨_, 0, rfl, by simp, fun j v hj => by
                    rw [Nat.zero_add]
                    exact (newCell W _ _ j).trans (by simpa using hj)⟩⟩
                have hon : ∀ u ∈ [Value.string (str t)], u.oneCell' = true := fun u hu => by simp at hu; subst hu; rfl
                have hnb : n2 + 1 ≤ 100000000 := by omega
                have hlm : (acc ++ [t]).length ≤ j + 1 := by rw [hl1]; omega
                replace hsl := Lib.hid hsl; replace hl1' := Lib.hid hl1'; replace hl2 := Lib.hid hl2; replace hl1 := Lib.hid hl1; replace hl3 := Lib.hid hl3; replace hon := Lib.hid hon; replace hnb := Lib.hid hnb; replace hlm := Lib.hid hlm
                clear hLo hRR hRf ed hin hbad hgood hmb hfl
                go_upto_region 13 with (first | (go_at_call 49; (with_reducible refine (htx.out _ (hp.out.box (i := 1) rfl)).mono ?_); rintro e w3 ⟨rfl, r1, q1⟩; replace hp := Lib.hid (hp.out.call (i := 1) rfl r1 q1); clear r1 q1) | (go_at_call 51; (with_reducible refine (herr.out _ (hp.out.box (i := 1) rfl)).mono ?_); rintro e w4 ⟨rfl, r1, q1⟩; replace hp := Lib.hid (hp.out.call (i := 1) rfl r1 q1); clear r1 q1) | (go_at_call 24; (with_reducible refine (hfind.out _ _ hp.out rfl).mono ?_); rintro e w5 ⟨rfl, rfl⟩) | (go_at_call 25; (with_reducible refine (hmay.out _).mono ?_); rintro e w6 ⟨rfl, b6⟩; replace hp := Lib.hid (hp.out.below b6); clear b6))
                obtain ⟨V, hv⟩ := openA hp.out
                replace hp := Lib.hid hv
                clear hv
                have hi0 := nmh_atA (g := d) (V := V) (L := upd L k acc) (rs := [.box q (rdC l2 0) 120]) hkn
                rw [upd_same, ← hln] at hi0
                obtain ⟨ad, cp, hV⟩ := rowShape (hp.out.row hi0)
                rw [hV] at hi0
                have hck := nm_cell (V := V) hkn
                rw [hV] at hck
                have d0 := (hp.out.cell (i := 0) rfl k).trans hck
                have d1 := ((hp.out.alloc_ (.cells #[.string (str t)] 9)).cell (i := 0) rfl k).trans hck
                have hpd := Lib.hid (hp.out.drew.alloc_ (.cells #[.string (str t)] 9))
                replace hi0 := Lib.hid hi0; replace hck := Lib.hid hck; replace hln := Lib.hid hln
                clear hV hal hal64
                go_region_law (refine step_append_sl_hpk rfl _ _ rfl Try.underlying51 strInfo rfl (by decide) (by decide) hpd.out (k + 1) hi0.out rfl rfl (hsl.out _) rfl hon.out hnb.out hl1'.out hl2.out ?_; intro v5 w9 h5 hv5; obtain ⟨ad5, cp5, rfl⟩ := hv5; have c5 := (h5.cell (i := 0) nmh_setA k).trans hck.out; have f5 := h5.free (i := 0) nmh_setA k; replace h5 := Lib.hid h5)
                all_goals replace h5 := Lib.hid (growA hkn h5.out hl1.out hl3.out)
                all_goals rw [upd_upd] at h5
                all_goals go_wp2_with fail
                all_goals
                  go_roundg g
                  case rel => exact ⟨j + 1, acc ++ [t], l2, 0, by go_num, by omega, hlm.out, h5.out, fun _ => rfl, hRn.out⟩
                  case measure => omega
          · rw [if_pos he2] at hLo
            have hR2 : R.2 = (l2, e2) := by rw [hRR, hLo]; exact kindsE_err _ _ _ _ _ he2
            have hend : ∀ W, W.heap[q]? = some (.cells (rdC l2 e2) 120 (0, 0)) → Calls Try.prog 52 #[.pointer (some ⟨q, 0, none⟩)] W fun e' w' => e' = .returned (.int .i64 e2) ∧ Keeps [q] W w' := fun W h => by have := code.end_step h; rwa [endE_ne _ _ he2] at this
            have hfin := fun w' => hbad.out l2 e2 hR2 (by rw [endE_ne _ _ he2]; exact he2) w'
            rw [endE_ne _ _ he2] at hfin
            have t1 : (e2 == 0) = false := by simp [he2]
            have t2 : (e2 != 0) = true := by simp [he2]
            replace herr := Lib.hid herr; replace hend := Lib.hid hend; replace hfin := Lib.hid hfin
            clear hLo hRR hRf hR2 hal hbad hgood he2
            go_wp2_with (first | (go_at_call 49; (with_reducible refine (htx.out _ (hp.out.box (i := 1) rfl)).mono ?_); rintro e w3 ⟨rfl, r1, q1⟩; replace hp := Lib.hid (hp.out.call (i := 1) rfl r1 q1); clear r1 q1) | (go_at_call 51; (with_reducible refine (herr.out _ (hp.out.box (i := 1) rfl)).mono ?_); rintro e w4 ⟨rfl, r1, q1⟩; replace hp := Lib.hid (hp.out.call (i := 1) rfl r1 q1); clear r1 q1) | (go_at_call 52; (with_reducible refine (hend.out _ (hp.out.box (i := 1) rfl)).mono ?_); rintro e w8 ⟨rfl, k3⟩; replace hp := Lib.hid (hp.out.lose (i := 1) rfl k3); clear k3))
            try rw [Exit.noGoto_ret]
            go_ret2
            exact hfin.out _ hp.out.bel
end Go.Proofs.Ytdgpalileloekaa.names
