/- The pager (package pager): what it fetches. The table of salts is a premise. -/
import Derived.Test.YtcdcipfojfnblaaGreatDoorPag1
import Derived.Laws.StructEq
namespace Go.Proofs.YtcdcipfojfnblaaGreatDoor.pager
open Go.RowKit mach mpr
attribute [local go_sem ↓] Go.wp_at_zero Go.wp_at_succ
set_option linter.unusedVariables false
set_option linter.unusedSimpArgs false
set_option maxRecDepth 100000

theorem fetch_results (tmps : Array Value) (W' : World) (g : Nat) (cs : Array Value) (a b c : Value) (h6 : tmps.getD 6 undef = .pointer (some ⟨g, 0, none⟩)) (h7 : tmps.getD 7 undef = a) (h8 : tmps.getD 8 undef = b) (h9 : tmps.getD 9 undef = c) (hg : W'.heap[g]? = some (.cells cs 59 (0, 0))) (hi : cs.size = 3) :
    (results Tryz.f24 tmps).run Tryz.prog W' = .ok (.tuple #[.agg cs, a, b, c]) W' := by
  have h6' : tmps[6]?.getD undef = .pointer (some ⟨g, 0, none⟩) := by simpa using h6
  have h7' : tmps[7]?.getD undef = a := by simpa using h7
  have h8' : tmps[8]?.getD undef = b := by simpa using h8
  have h9' : tmps[9]?.getD undef = c := by simpa using h9
  have hs : (Tryz.prog.info? 59).map (·.size) = some cs.size := by rw [hi]; kernel_rfl
  simp [results, Tryz.results24, h6', h7', h8', h9', asAddr, run_loadVar_row W' g 59 59 cs (0, 0) _ hg Tryz.underlying59 rfl hs]
/-- what is fetched of a block's bytes -/
def fch (m : List UInt8) (n : Nat) (x sum : List UInt8) : sha.Got :=
  if sum = [] ∨ sha.shaB sha.salts x = sum then (if (sha.getB m n x).err = 0 then sha.getB m n x else ⟨0, 0, 0, [], 8⟩) else ⟨0, 0, 0, [], 8⟩
def fchV (m : List UInt8) (n : Nat) (x sum : List UInt8) : Value :=
  .tuple #[.agg #[.int .u32 ((fch m n x sum).e : Int), .int .u64 ((fch m n x sum).c : Int), .int .u32 ((fch m n x sum).i : Int)], .string (str (fch m n x sum).s), .string (str (if (fch m n x sum).err = 0 then x else [])), .int .i64 ((fch m n x sum).err : Int)]
def fchB (bs : sha.BSt) (x sum : List UInt8) : sha.BSt := if sum = [] then bs else sha.noteS bs (sha.shaB sha.salts x) x
def PSt.more (x : PSt) : PSt := { x with fet := x.fet + 1 }
theorem str_inj {a b : List UInt8} (h : str a = str b) : a = b := by
  have := congrArg (fun s => s.data.toList) h
  simpa [str] using this
section
variable {w W : World} {X : List Nat} {rs : List Rs}
set_option maxHeartbeats 8000000 in
theorem fetch_any {p d g b c : Nat} {key : List UInt8} {reg : ByteArray} {x : PSt} {ds : disk.DSt} {bs : sha.BSt} (h : Hp w X (pg p x :: dev d (str key) reg c g :: dsk g ds :: bk b bs :: rs) W) (hT : SaltIn w X) (hxg : x.g = g) (hxd : x.d = d) (hxb : x.b = b) (hfe : 0 ≤ x.fet ∧ x.fet < 1000000000) (hkey : key.length ≤ 1000000)
    (hd : ds.dead = false) (n : Nat) (hn : n < ds.sure.length) (hl : ds.sure.length ≤ 4096) (hbc : bs.c ≤ 8192) (sum B : List UInt8) (hB : ds.see n = B) (hBl : B.length = 512) :
    Calls Tryz.prog 24 #[.pointer (some ⟨p, 0, none⟩), .int .i64 (n : Int), .string (str sum)] W fun e w' => e = .returned (fchV key n B sum) ∧
      Hp w X (pg p x.more :: dev d (str key) reg c g :: dsk g ds :: bk b (fchB bs B sum) :: rs) w' := by
  obtain ⟨xg, xd, xb, xs, xe, xc, xi, km, eld, most, fet, aga, fm, dro⟩ := x
  simp only [PSt.more] at *
  subst hxg; subst hxd; subst hxb
  have hp0 := h.alloc #[.int .u32 0, .int .u64 0, .int .u32 0] 59
  have kR : ∀ W', Hp w X (.box W.heap.size #[.int .u32 0, .int .u64 0, .int .u32 0] 59 :: pg p ⟨xg, xd, xb, xs, xe, xc, xi, km, eld, most, fet, aga, fm, dro⟩ :: dev xd (str key) reg c xg :: dsk xg ds :: bk xb bs :: rs) W' → Calls Tryz.prog 22 #[.pointer (some ⟨xg, 0, none⟩), .int .i64 (n : Int)] W' fun e w' => e = .returned (.tuple #[.string (str B), .int .i64 0]) ∧ Hp w X (.box W.heap.size #[.int .u32 0, .int .u64 0, .int .u32 0] 59 :: pg p ⟨xg, xd, xb, xs, xe, xc, xi, km, eld, most, fet, aga, fm, dro⟩ :: dev xd (str key) reg c xg :: dsk xg ds :: bk xb bs :: rs) w' := fun W' h' => by rw [← hB]; exact read_hp h' (i := 3) rfl hd n hn (by omega)
  have kS : ∀ W', Hp w X (.box W.heap.size #[.int .u32 0, .int .u64 0, .int .u32 0] 59 :: pg p ⟨xg, xd, xb, xs, xe, xc, xi, km, eld, most, (fet + 1), aga, fm, dro⟩ :: dev xd (str key) reg c xg :: dsk xg ds :: bk xb bs :: rs) W' → Calls Tryz.prog 45 #[.pointer (some ⟨xb, 0, none⟩), .string (str B)] W' fun e w' => e = .returned (.string (str (sha.shaB sha.salts B))) ∧ Hp w X (.box W.heap.size #[.int .u32 0, .int .u64 0, .int .u32 0] 59 :: pg p ⟨xg, xd, xb, xs, xe, xc, xi, km, eld, most, (fet + 1), aga, fm, dro⟩ :: dev xd (str key) reg c xg :: dsk xg ds :: bk xb (sha.noteS bs (sha.shaB sha.salts B) B) :: rs) w' := fun W' h' => bsum_hp h' (i := 4) rfl B (by omega) hbc (hT.at h')
  have kK : ∀ (b2 : sha.BSt) W', Hp w X (.box W.heap.size #[.int .u32 0, .int .u64 0, .int .u32 0] 59 :: pg p ⟨xg, xd, xb, xs, xe, xc, xi, km, eld, most, (fet + 1), aga, fm, dro⟩ :: dev xd (str key) reg c xg :: dsk xg ds :: bk xb b2 :: rs) W' → Calls Tryz.prog 42 #[.pointer (some ⟨xd, 0, none⟩)] W' fun e w' => e = .returned (.string (str key)) ∧ Hp w X (.box W.heap.size #[.int .u32 0, .int .u64 0, .int .u32 0] 59 :: pg p ⟨xg, xd, xb, xs, xe, xc, xi, km, eld, most, (fet + 1), aga, fm, dro⟩ :: dev xd (str key) reg c xg :: dsk xg ds :: bk xb b2 :: rs) w' := fun b2 W' h' => key_hp h' (i := 2) rfl
  have kG : ∀ (b2 : sha.BSt) W', Hp w X (.box W.heap.size #[.int .u32 0, .int .u64 0, .int .u32 0] 59 :: pg p ⟨xg, xd, xb, xs, xe, xc, xi, km, eld, most, (fet + 1), aga, fm, dro⟩ :: dev xd (str key) reg c xg :: dsk xg ds :: bk xb b2 :: rs) W' → Calls Tryz.prog 51 #[.string (str key), .int .i64 (n : Int), .string (str B)] W' fun e w' => e = .returned (sha.getB key n B).val ∧ Hp w X (.box W.heap.size #[.int .u32 0, .int .u64 0, .int .u32 0] 59 :: pg p ⟨xg, xd, xb, xs, xe, xc, xi, km, eld, most, (fet + 1), aga, fm, dro⟩ :: dev xd (str key) reg c xg :: dsk xg ds :: bk xb b2 :: rs) w' := fun b2 W' h' =>
    (sha.bget_any key B (n : Int) n (IntWalk.u32_in _ (by omega)) (by omega) hkey W' (hT.at h')).mono fun e w' ⟨he, hb⟩ => ⟨he, h'.below hb⟩
  obtain ⟨G, hG⟩ : ∃ G, G = sha.getB key n B := ⟨_, rfl⟩
  obtain ⟨S, hS⟩ : ∃ S, S = sha.shaB sha.salts B := ⟨_, rfl⟩
  have hSl : S.length = 32 := by rw [hS]; exact sha.shaB_len _ _
  unfold fchV fchB fch
  rw [← hG, ← hS]
  rw [← hG] at kG
  rw [← hS] at kS
  obtain ⟨b2, hb2⟩ : ∃ x, x = sha.noteS bs S B := ⟨_, rfl⟩
  rw [← hb2] at kS ⊢
  obtain ⟨ge, gc, gi, gs, gr⟩ := G
  simp only [sha.Got.val] at kG ⊢
  have c0 : (W.alloc (.cells #[.int .u32 0, .int .u64 0, .int .u32 0] 59)).cell? ⟨p, 0, none⟩ = some (.pointer (some ⟨xg, 0, none⟩)) := hp0.cell (i := 1) rfl 0
  replace hp0 := Lib.hid hp0; replace kR := Lib.hid kR; replace kS := Lib.hid kS; replace kK := Lib.hid kK; replace kG := Lib.hid kG
  clear h hT hG hS hB hBl hd hn hl hbc hkey hb2
  obtain ⟨T, hT⟩ : ∃ T, T = str sum := ⟨_, rfl⟩
  obtain ⟨K, hK⟩ : ∃ K, K = str key := ⟨_, rfl⟩
  rw [← hT]
  have hfe' : 0 ≤ fet ∧ fet < 1000000000 := hfe
  clear hfe
  obtain ⟨hf0, hf1⟩ := hfe'
  by_cases hnil : sum = []
  · rw [if_pos (Or.inl hnil), if_pos hnil]
    have hT2 : T = ⟨#[]⟩ := by rw [hT, hnil]; rfl
    clear hT hnil
    subst hT2
    by_cases hr : gr = 0
    · subst hr
      rw [if_pos rfl]
      go_enter Tryz.func24, Tryz.ntmps24
      go_upto_region 7 with (go_at_call 22; (with_reducible refine (kR.out _ hp0.out).mono ?_); rintro e w1 ⟨rfl, h1⟩; have hp := Lib.hid h1; clear h1; have d10 : w1.cell? ⟨p, 10, none⟩ = some (.int .i64 fet) := hp.out.cell (i := 1) rfl 10; have f10 := hp.out.free (i := 1) rfl 10)
      have hpy := Lib.hid (show Hp w X (.box W.heap.size #[.int .u32 0, .int .u64 0, .int .u32 0] 59 :: pg p ⟨xg, xd, xb, xs, xe, xc, xi, km, eld, most, (fet + 1), aga, fm, dro⟩ :: dev xd (str key) reg c xg :: dsk xg ds :: bk xb bs :: rs) _ from hp.out.put (i := 1) rfl 10 (.int .i64 (fet + 1)))
      clear hp hp0 c0 d10 f10 kR
      generalize World.setCell _ _ _ = W2 at hpy ⊢
      have c1 : W2.cell? ⟨p, 1, none⟩ = some (.pointer (some ⟨xd, 0, none⟩)) := hpy.out.cell (i := 1) rfl 1
      have c2 : W2.cell? ⟨p, 2, none⟩ = some (.pointer (some ⟨xb, 0, none⟩)) := hpy.out.cell (i := 1) rfl 2
      go_upto_region 10 with (first
        | (go_at_call 45; (with_reducible refine (kS.out _ hpy.out).mono ?_); rintro e w2 ⟨rfl, h1⟩; replace hpy := Lib.hid h1; clear h1; have e1 : w2.cell? ⟨p, 1, none⟩ = some (.pointer (some ⟨xd, 0, none⟩)) := hpy.out.cell (i := 1) rfl 1)
        | (go_at_call 42; (with_reducible refine (kK.out _ _ hpy.out).mono ?_); rintro e w3 ⟨rfl, h1⟩; replace hpy := Lib.hid h1; clear h1)
        | (go_at_call 51; (with_reducible refine (kG.out _ _ hpy.out).mono ?_); rintro e w4 ⟨rfl, h1⟩; replace hpy := Lib.hid h1; clear h1))
      have hp5 := Lib.hid (hpy.out.alloc #[.int .u32 (ge : Int), .int .u64 (gc : Int), .int .u32 (gi : Int)] 59)
      clear hpy c1 c2
      generalize World.alloc _ _ = W5 at hp5 ⊢
      have b0 := hp5.out.cell (i := 1) rfl 0; have b1 := hp5.out.cell (i := 1) rfl 1; have b2 := hp5.out.cell (i := 1) rfl 2; have f0 := hp5.out.free (i := 1) rfl 0; have f1 := hp5.out.free (i := 1) rfl 1; have f2 := hp5.out.free (i := 1) rfl 2
      have a0 := hp5.out.cell (i := 0) rfl 0; have a1 := hp5.out.cell (i := 0) rfl 1; have a2 := hp5.out.cell (i := 0) rfl 2
      simp at b0 b1 b2 a0 a1 a2
      go_wp2
      have fin := ((hp5.out.put (i := 1) rfl 0 (.int .u32 (ge : Int))).put (i := 1) rfl 1 (.int .u64 (gc : Int))).put (i := 1) rfl 2 (.int .u32 (gi : Int))
      exact bodyPost_ret (fetch_results _ _ W.heap.size #[(.int .u32 (ge : Int)), (.int .u64 (gc : Int)), (.int .u32 (gi : Int))] (.string (str gs)) (.string (str B)) (.int .i64 0) rfl rfl rfl rfl (fin.box (i := 1) rfl) rfl) rfl ⟨rfl, (fin.drop 0).drop 0⟩
    · have hr1 : ¬ ((gr : Int) = 0) := by omega
      rw [if_neg hr]
      go_enter Tryz.func24, Tryz.ntmps24
      go_upto_region 7 with (go_at_call 22; (with_reducible refine (kR.out _ hp0.out).mono ?_); rintro e w1 ⟨rfl, h1⟩; have hp := Lib.hid h1; clear h1; have d10 : w1.cell? ⟨p, 10, none⟩ = some (.int .i64 fet) := hp.out.cell (i := 1) rfl 10; have f10 := hp.out.free (i := 1) rfl 10)
      have hpy := Lib.hid (show Hp w X (.box W.heap.size #[.int .u32 0, .int .u64 0, .int .u32 0] 59 :: pg p ⟨xg, xd, xb, xs, xe, xc, xi, km, eld, most, (fet + 1), aga, fm, dro⟩ :: dev xd (str key) reg c xg :: dsk xg ds :: bk xb bs :: rs) _ from hp.out.put (i := 1) rfl 10 (.int .i64 (fet + 1)))
      clear hp hp0 c0 d10 f10 kR
      generalize World.setCell _ _ _ = W2 at hpy ⊢
      have c1 : W2.cell? ⟨p, 1, none⟩ = some (.pointer (some ⟨xd, 0, none⟩)) := hpy.out.cell (i := 1) rfl 1
      have c2 : W2.cell? ⟨p, 2, none⟩ = some (.pointer (some ⟨xb, 0, none⟩)) := hpy.out.cell (i := 1) rfl 2
      go_upto_region 10 with (first
        | (go_at_call 45; (with_reducible refine (kS.out _ hpy.out).mono ?_); rintro e w2 ⟨rfl, h1⟩; replace hpy := Lib.hid h1; clear h1; have e1 : w2.cell? ⟨p, 1, none⟩ = some (.pointer (some ⟨xd, 0, none⟩)) := hpy.out.cell (i := 1) rfl 1)
        | (go_at_call 42; (with_reducible refine (kK.out _ _ hpy.out).mono ?_); rintro e w3 ⟨rfl, h1⟩; replace hpy := Lib.hid h1; clear h1)
        | (go_at_call 51; (with_reducible refine (kG.out _ _ hpy.out).mono ?_); rintro e w4 ⟨rfl, h1⟩; replace hpy := Lib.hid h1; clear h1))
      have hp5 := Lib.hid (hpy.out.alloc #[.int .u32 (ge : Int), .int .u64 (gc : Int), .int .u32 (gi : Int)] 59)
      clear hpy c1 c2
      generalize World.alloc _ _ = W5 at hp5 ⊢
      have b0 := hp5.out.cell (i := 1) rfl 0; have b1 := hp5.out.cell (i := 1) rfl 1; have b2 := hp5.out.cell (i := 1) rfl 2; have f0 := hp5.out.free (i := 1) rfl 0; have f1 := hp5.out.free (i := 1) rfl 1; have f2 := hp5.out.free (i := 1) rfl 2
      have a0 := hp5.out.cell (i := 0) rfl 0; have a1 := hp5.out.cell (i := 0) rfl 1; have a2 := hp5.out.cell (i := 0) rfl 2
      simp at b0 b1 b2 a0 a1 a2
      go_wp2
      have fin := ((hp5.out.put (i := 1) rfl 0 (.int .u32 0)).put (i := 1) rfl 1 (.int .u64 0)).put (i := 1) rfl 2 (.int .u32 0)
      exact bodyPost_ret (fetch_results _ _ W.heap.size #[(.int .u32 0), (.int .u64 0), (.int .u32 0)] (.string ⟨#[]⟩) (.string ⟨#[]⟩) (.int .i64 8) rfl rfl rfl rfl (fin.box (i := 1) rfl) rfl) rfl ⟨rfl, (fin.drop 0).drop 0⟩
  · have hTe : ¬ T.toList = [] := by
      rw [hT, ByteArray.toList_eq]; simpa [str] using hnil
    have hTe2 : (T.toList == []) = false := by simpa using hTe
    have hTe3 : T.toList.isEmpty = false := by cases q : T.toList with
      | nil => exact absurd q hTe
      | cons a b => rfl
    rw [if_neg hnil]
    by_cases hsum : S = sum
    · rw [if_pos (Or.inr hsum)]
      subst hsum
      subst hT
      clear hnil
      by_cases hr : gr = 0
      · subst hr
        rw [if_pos rfl]
        go_enter Tryz.func24, Tryz.ntmps24
        go_upto_region 7 with (go_at_call 22; (with_reducible refine (kR.out _ hp0.out).mono ?_); rintro e w1 ⟨rfl, h1⟩; have hp := Lib.hid h1; clear h1; have d10 : w1.cell? ⟨p, 10, none⟩ = some (.int .i64 fet) := hp.out.cell (i := 1) rfl 10; have f10 := hp.out.free (i := 1) rfl 10)
        have hpy := Lib.hid (show Hp w X (.box W.heap.size #[.int .u32 0, .int .u64 0, .int .u32 0] 59 :: pg p ⟨xg, xd, xb, xs, xe, xc, xi, km, eld, most, (fet + 1), aga, fm, dro⟩ :: dev xd (str key) reg c xg :: dsk xg ds :: bk xb bs :: rs) _ from hp.out.put (i := 1) rfl 10 (.int .i64 (fet + 1)))
        clear hp hp0 c0 d10 f10 kR
        generalize World.setCell _ _ _ = W2 at hpy ⊢
        have c1 : W2.cell? ⟨p, 1, none⟩ = some (.pointer (some ⟨xd, 0, none⟩)) := hpy.out.cell (i := 1) rfl 1
        have c2 : W2.cell? ⟨p, 2, none⟩ = some (.pointer (some ⟨xb, 0, none⟩)) := hpy.out.cell (i := 1) rfl 2
        go_upto_region 10 with (first
          | (go_at_call 45; (with_reducible refine (kS.out _ hpy.out).mono ?_); rintro e w2 ⟨rfl, h1⟩; replace hpy := Lib.hid h1; clear h1; have e1 : w2.cell? ⟨p, 1, none⟩ = some (.pointer (some ⟨xd, 0, none⟩)) := hpy.out.cell (i := 1) rfl 1)
          | (go_at_call 42; (with_reducible refine (kK.out _ _ hpy.out).mono ?_); rintro e w3 ⟨rfl, h1⟩; replace hpy := Lib.hid h1; clear h1)
          | (go_at_call 51; (with_reducible refine (kG.out _ _ hpy.out).mono ?_); rintro e w4 ⟨rfl, h1⟩; replace hpy := Lib.hid h1; clear h1))
        have hp5 := Lib.hid (hpy.out.alloc #[.int .u32 (ge : Int), .int .u64 (gc : Int), .int .u32 (gi : Int)] 59)
        clear hpy c1 c2
        generalize World.alloc _ _ = W5 at hp5 ⊢
        have b0 := hp5.out.cell (i := 1) rfl 0; have b1 := hp5.out.cell (i := 1) rfl 1; have b2 := hp5.out.cell (i := 1) rfl 2; have f0 := hp5.out.free (i := 1) rfl 0; have f1 := hp5.out.free (i := 1) rfl 1; have f2 := hp5.out.free (i := 1) rfl 2
        have a0 := hp5.out.cell (i := 0) rfl 0; have a1 := hp5.out.cell (i := 0) rfl 1; have a2 := hp5.out.cell (i := 0) rfl 2
        simp at b0 b1 b2 a0 a1 a2
        go_wp2
        have fin := ((hp5.out.put (i := 1) rfl 0 (.int .u32 (ge : Int))).put (i := 1) rfl 1 (.int .u64 (gc : Int))).put (i := 1) rfl 2 (.int .u32 (gi : Int))
        exact bodyPost_ret (fetch_results _ _ W.heap.size #[(.int .u32 (ge : Int)), (.int .u64 (gc : Int)), (.int .u32 (gi : Int))] (.string (str gs)) (.string (str B)) (.int .i64 0) rfl rfl rfl rfl (fin.box (i := 1) rfl) rfl) rfl ⟨rfl, (fin.drop 0).drop 0⟩
      · have hr1 : ¬ ((gr : Int) = 0) := by omega
        rw [if_neg hr]
        go_enter Tryz.func24, Tryz.ntmps24
        go_upto_region 7 with (go_at_call 22; (with_reducible refine (kR.out _ hp0.out).mono ?_); rintro e w1 ⟨rfl, h1⟩; have hp := Lib.hid h1; clear h1; have d10 : w1.cell? ⟨p, 10, none⟩ = some (.int .i64 fet) := hp.out.cell (i := 1) rfl 10; have f10 := hp.out.free (i := 1) rfl 10)
        have hpy := Lib.hid (show Hp w X (.box W.heap.size #[.int .u32 0, .int .u64 0, .int .u32 0] 59 :: pg p ⟨xg, xd, xb, xs, xe, xc, xi, km, eld, most, (fet + 1), aga, fm, dro⟩ :: dev xd (str key) reg c xg :: dsk xg ds :: bk xb bs :: rs) _ from hp.out.put (i := 1) rfl 10 (.int .i64 (fet + 1)))
        clear hp hp0 c0 d10 f10 kR
        generalize World.setCell _ _ _ = W2 at hpy ⊢
        have c1 : W2.cell? ⟨p, 1, none⟩ = some (.pointer (some ⟨xd, 0, none⟩)) := hpy.out.cell (i := 1) rfl 1
        have c2 : W2.cell? ⟨p, 2, none⟩ = some (.pointer (some ⟨xb, 0, none⟩)) := hpy.out.cell (i := 1) rfl 2
        go_upto_region 10 with (first
          | (go_at_call 45; (with_reducible refine (kS.out _ hpy.out).mono ?_); rintro e w2 ⟨rfl, h1⟩; replace hpy := Lib.hid h1; clear h1; have e1 : w2.cell? ⟨p, 1, none⟩ = some (.pointer (some ⟨xd, 0, none⟩)) := hpy.out.cell (i := 1) rfl 1)
          | (go_at_call 42; (with_reducible refine (kK.out _ _ hpy.out).mono ?_); rintro e w3 ⟨rfl, h1⟩; replace hpy := Lib.hid h1; clear h1)
          | (go_at_call 51; (with_reducible refine (kG.out _ _ hpy.out).mono ?_); rintro e w4 ⟨rfl, h1⟩; replace hpy := Lib.hid h1; clear h1))
        have hp5 := Lib.hid (hpy.out.alloc #[.int .u32 (ge : Int), .int .u64 (gc : Int), .int .u32 (gi : Int)] 59)
        clear hpy c1 c2
        generalize World.alloc _ _ = W5 at hp5 ⊢
        have b0 := hp5.out.cell (i := 1) rfl 0; have b1 := hp5.out.cell (i := 1) rfl 1; have b2 := hp5.out.cell (i := 1) rfl 2; have f0 := hp5.out.free (i := 1) rfl 0; have f1 := hp5.out.free (i := 1) rfl 1; have f2 := hp5.out.free (i := 1) rfl 2
        have a0 := hp5.out.cell (i := 0) rfl 0; have a1 := hp5.out.cell (i := 0) rfl 1; have a2 := hp5.out.cell (i := 0) rfl 2
        simp at b0 b1 b2 a0 a1 a2
        go_wp2
        have fin := ((hp5.out.put (i := 1) rfl 0 (.int .u32 0)).put (i := 1) rfl 1 (.int .u64 0)).put (i := 1) rfl 2 (.int .u32 0)
        exact bodyPost_ret (fetch_results _ _ W.heap.size #[(.int .u32 0), (.int .u64 0), (.int .u32 0)] (.string ⟨#[]⟩) (.string ⟨#[]⟩) (.int .i64 8) rfl rfl rfl rfl (fin.box (i := 1) rfl) rfl) rfl ⟨rfl, (fin.drop 0).drop 0⟩
    · have hne : ¬ (str S).toList = T.toList := by
        rw [hT, ByteArray.toList_eq, ByteArray.toList_eq]; simpa [str] using hsum
      have hne2 : ((str S).toList == T.toList) = false := by simpa using hne
      rw [if_neg (by rintro (h | h); exact hnil h; exact hsum h)]
      clear hT hnil hsum
      go_enter Tryz.func24, Tryz.ntmps24
      go_upto_region 7 with (go_at_call 22; (with_reducible refine (kR.out _ hp0.out).mono ?_); rintro e w1 ⟨rfl, h1⟩; have hp := Lib.hid h1; clear h1; have d10 : w1.cell? ⟨p, 10, none⟩ = some (.int .i64 fet) := hp.out.cell (i := 1) rfl 10; have f10 := hp.out.free (i := 1) rfl 10)
      have hpy := Lib.hid (show Hp w X (.box W.heap.size #[.int .u32 0, .int .u64 0, .int .u32 0] 59 :: pg p ⟨xg, xd, xb, xs, xe, xc, xi, km, eld, most, (fet + 1), aga, fm, dro⟩ :: dev xd (str key) reg c xg :: dsk xg ds :: bk xb bs :: rs) _ from hp.out.put (i := 1) rfl 10 (.int .i64 (fet + 1)))
      clear hp hp0 c0 d10 f10 kR
      generalize World.setCell _ _ _ = W2 at hpy ⊢
      have c1 : W2.cell? ⟨p, 1, none⟩ = some (.pointer (some ⟨xd, 0, none⟩)) := hpy.out.cell (i := 1) rfl 1
      have c2 : W2.cell? ⟨p, 2, none⟩ = some (.pointer (some ⟨xb, 0, none⟩)) := hpy.out.cell (i := 1) rfl 2
      have b0 := hpy.out.cell (i := 0) rfl 0; have b1 := hpy.out.cell (i := 0) rfl 1; have b2 := hpy.out.cell (i := 0) rfl 2
      simp at b0 b1 b2
      go_wp2_with (go_at_call 45; (with_reducible refine (kS.out _ hpy.out).mono ?_); rintro e w2 ⟨rfl, h1⟩; replace hpy := Lib.hid h1; clear h1; have b0 := hpy.out.cell (i := 0) rfl 0; have b1 := hpy.out.cell (i := 0) rfl 1; have b2 := hpy.out.cell (i := 0) rfl 2; have f0 := hpy.out.free (i := 0) rfl 0; have f1 := hpy.out.free (i := 0) rfl 1; have f2 := hpy.out.free (i := 0) rfl 2; simp at b0 b1 b2)
      have fin := ((hpy.out.put (i := 0) rfl 0 (.int .u32 0)).put (i := 0) rfl 1 (.int .u64 0)).put (i := 0) rfl 2 (.int .u32 0)
      exact bodyPost_ret (fetch_results _ _ W.heap.size #[.int .u32 0, .int .u64 0, .int .u32 0] (.string ⟨#[]⟩) (.string ⟨#[]⟩) (.int .i64 8) rfl rfl rfl rfl (fin.box (i := 0) rfl) rfl) rfl ⟨rfl, fin.drop 0⟩
theorem fetch_nil (n : Int) (s : ByteArray) (W : World) : Calls Tryz.prog 24 #[.pointer none, .int .i64 n, .string s] W fun e w' => e = .returned (.tuple #[.agg #[.int .u32 0, .int .u64 0, .int .u32 0], .string ⟨#[]⟩, .string ⟨#[]⟩, .int .i64 1]) ∧ Below W.heap.size W w' := by
  have hp := Lib.hid ((Hp.none_ W []).alloc #[.int .u32 0, .int .u64 0, .int .u32 0] 59)
  have b0 := hp.out.cell (i := 0) rfl 0; have b1 := hp.out.cell (i := 0) rfl 1; have b2 := hp.out.cell (i := 0) rfl 2; have f0 := hp.out.free (i := 0) rfl 0; have f1 := hp.out.free (i := 0) rfl 1; have f2 := hp.out.free (i := 0) rfl 2
  simp at b0 b1 b2
  go_enter Tryz.func24, Tryz.ntmps24
  go_wp2
  exact bodyPost_ret (fetch_results _ _ W.heap.size #[.int .u32 0, .int .u64 0, .int .u32 0] (.string ⟨#[]⟩) (.string ⟨#[]⟩) (.int .i64 1) rfl rfl rfl rfl (hp.out.box (i := 0) rfl) rfl) rfl ⟨rfl, hp.out.bel⟩
end
end Go.Proofs.YtcdcipfojfnblaaGreatDoor.pager
