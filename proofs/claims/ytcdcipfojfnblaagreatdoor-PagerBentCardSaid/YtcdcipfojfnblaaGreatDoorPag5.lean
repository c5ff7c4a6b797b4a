/- The pager (package pager): reading a page. The table of salts is a premise. -/
import Derived.Test.YtcdcipfojfnblaaGreatDoorPag4
namespace Go.Proofs.YtcdcipfojfnblaaGreatDoor.pager
open Go.RowKit mach mpr
attribute [local go_sem ↓] Go.wp_at_zero Go.wp_at_succ
set_option linter.unusedVariables false
set_option linter.unusedSimpArgs false
set_option maxRecDepth 100000

section
variable {w W : World} {X : List Nat} {rs : List Rs}
set_option maxHeartbeats 4000000 in
theorem read_kept {p d g b sg c : Nat} {key : List UInt8} {reg : ByteArray} {x : PSt} {ds : disk.DSt} {bs : sha.BSt} {fi pl le : Int} {f : Int → Bool} {cc fc : Nat} {ff : Int → Bool} {k : Kp} (h : Hp w X (pg p x :: dev d (str key) reg c g :: dsk g ds :: bk b bs :: sp sg fi pl le f cc :: mset x.fm ff fc :: kmap x.km k :: kque x.eld k :: rs) W) (hT : SaltIn w X) (hxg : x.g = g) (hxd : x.d = d) (hxb : x.b = b) (hxs : x.s = sg) (n : Nat) (hn : n < 100000000) (sum t : List UInt8) (hsl : sum.length = 32) (hk : k.f (rk (n : Int) sum) = some t) (hag : 0 ≤ x.aga ∧ x.aga < 1000000000) :
    Calls Tryz.prog 10 #[.pointer (some ⟨p, 0, none⟩), .agg #[.int .i64 (n : Int), .string (str sum)]] W fun e w' => e = .returned (.tuple #[.string (str t), .int .i64 0]) ∧
      Hp w X (pg p { x with aga := x.aga + 1 } :: dev d (str key) reg c g :: dsk g ds :: bk b bs :: sp sg fi pl le f cc :: mset x.fm ff fc :: kmap x.km k :: kque x.eld k :: rs) w' := by
  obtain ⟨xg, xd, xb, xs, xe, xc, xi, km, eld, most, fet, aga, fm, dro⟩ := x
  simp only [PSt.more] at *
  subst hxg; subst hxd; subst hxb; subst hxs
  have hp0 := toEnd8 (h.alloc #[.int .i64 (n : Int), .string (str sum)] 34)
  obtain ⟨bb, hbb⟩ : ∃ b, b = (k.f (rk (n : Int) sum)).isSome := ⟨_, rfl⟩
  obtain ⟨T0, hT0⟩ : ∃ b, b = str ((k.f (rk (n : Int) sum)).getD []) := ⟨_, rfl⟩
  have hs1 : ∀ W', Hp w X (pg p ⟨xg, xd, xb, xs, xe, xc, xi, km, eld, most, fet, aga, fm, dro⟩ :: dev xd (str key) reg c xg :: dsk xg ds :: bk xb bs :: (sp xs fi pl le f cc) :: (mset fm ff fc) :: kmap km k :: kque eld k :: (.box W.heap.size #[.int .i64 (n : Int), .string (str sum)] 34 :: rs)) W' → W'.cell? ⟨p, 7, none⟩ = some (.map (some km)) ∧ (W'.cell? ⟨W.heap.size, 0, none⟩ = some (.int .i64 (n : Int)) ∧ W'.cell? ⟨W.heap.size, 1, none⟩ = some (.string (str sum))) ∧ (Instr.lookup 85 (.map (some km)) (.agg #[.int .i64 (n : Int), .string (str sum)]) true).run Tryz.prog W' = .ok (.tuple #[.agg #[.string T0], .bool bb]) W' := fun W' h' =>
    ⟨h'.cell (i := 0) rfl 7, ⟨h'.cell (i := 8) rfl 0, h'.cell (i := 8) rfl 1⟩, by rw [hbb, hT0]; exact kmap_look h' (i := 6) rfl (wf_i64 (by omega)) (by omega) W' rfl⟩
  have hs2 : ∀ g V W', Hp w X (.box g #[V] 83 :: (pg p ⟨xg, xd, xb, xs, xe, xc, xi, km, eld, most, fet, aga, fm, dro⟩ :: dev xd (str key) reg c xg :: dsk xg ds :: bk xb bs :: (sp xs fi pl le f cc) :: (mset fm ff fc) :: kmap km k :: kque eld k :: (.box W.heap.size #[.int .i64 (n : Int), .string (str sum)] 34 :: rs))) W' → W'.cell? ⟨p, 7, none⟩ = some (.map (some km)) ∧ (W'.cell? ⟨W.heap.size, 0, none⟩ = some (.int .i64 (n : Int)) ∧ W'.cell? ⟨W.heap.size, 1, none⟩ = some (.string (str sum))) ∧ (Instr.lookup 85 (.map (some km)) (.agg #[.int .i64 (n : Int), .string (str sum)]) true).run Tryz.prog W' = .ok (.tuple #[.agg #[.string T0], .bool bb]) W' := fun g V W' h' => hs1 W' (h'.drop 0)
  rw [hk] at hbb hT0
  simp only [Option.isSome_some, Option.getD_some] at hbb hT0
  rw [← hT0]
  have hsz : ((str sum).size : Int) = 32 := by rw [str_size, hsl]; rfl
  obtain ⟨SM, hSM⟩ : ∃ S, S = str sum := ⟨_, rfl⟩
  rw [← hSM] at hp0 hs1 hs2 hsz ⊢
  replace hp0 := Lib.hid hp0; replace hs1 := Lib.hid hs1; replace hs2 := Lib.hid hs2
  obtain ⟨g0, g1⟩ := hag
  subst hbb
  clear h hT hT0 hSM hk hsl hn
  have q1 : (W.alloc (.cells #[.int .i64 (n : Int), .string SM] 34)).cell? ⟨W.heap.size, 1, none⟩ = some (.string SM) := hp0.out.cell (i := 8) rfl 1
  go_enter Tryz.func10, Tryz.ntmps10
  go_upto_region 3 with fail
  generalize hq : W.alloc _ = W1 at *
  generalize hq2 : W.heap.size = q at *
  clear hq hq2 q1
  refine wp_region_noPanic ?_; refine wp_region_held_drew (S := (fun W' => W'.cell? ⟨p, 7, none⟩ = some (.map (some km)) ∧ (W'.cell? ⟨q, 0, none⟩ = some (.int .i64 (n : Int)) ∧ W'.cell? ⟨q, 1, none⟩ = some (.string SM)) ∧ (Instr.lookup 85 (.map (some km)) (.agg #[.int .i64 (n : Int), .string SM]) true).run Tryz.prog W' = .ok (.tuple #[.agg #[.string T0], .bool true]) W')) (by kernel_rfl) ?_ (fun hHeld => ?_); (focus ((try dsimp only); first | exact hs1.out _ hp0.out.drew | exact hs2.out _ _ _ hp1.out; done)); (refine take_t (i := 0) (d := 21) (oi := _) (v := ?_) rfl rfl (by kernel_rfl) (by kernel_rfl) (by kernel_rfl) (by rfl) ?_ (by assumption) ?_; rotate_left; (focus (intro w0 hSw; (try dsimp only at hSw); go_simp; (try with_reducible rfl); done)); try simp only [Act.put, List.setIfInBounds_toArray, List.set_cons_zero, List.set_cons_succ]); (refine take_t (i := 1) (d := 22) (oi := _) (v := ?_) rfl rfl (by kernel_rfl) (by kernel_rfl) (by kernel_rfl) (by rfl) ?_ (by assumption) ?_; rotate_left; (focus (intro w0 hSw; (try dsimp only at hSw); go_simp; (try with_reducible rfl); done)); try simp only [Act.put, List.setIfInBounds_toArray, List.set_cons_zero, List.set_cons_succ]); (refine take_t (i := 2) (d := 23) (oi := _) (v := ?_) rfl rfl (by kernel_rfl) (by kernel_rfl) (by kernel_rfl) (by rfl) ?_ (by assumption) ?_; rotate_left; (focus (intro w0 hSw; (try dsimp only at hSw); go_simp; (try with_reducible rfl); done)); try simp only [Act.put, List.setIfInBounds_toArray, List.set_cons_zero, List.set_cons_succ]); (refine take_t (i := 3) (d := 24) (oi := _) (v := ?_) rfl rfl (by kernel_rfl) (by kernel_rfl) (by kernel_rfl) (by rfl) ?_ (by assumption) ?_; rotate_left; (focus (intro w0 hSw; (try dsimp only at hSw); go_simp; (try with_reducible rfl); done)); try simp only [Act.put, List.setIfInBounds_toArray, List.set_cons_zero, List.set_cons_succ]); (refine take_t (i := 4) (d := 25) (oi := _) (v := ?_) rfl rfl (by kernel_rfl) (by kernel_rfl) (by kernel_rfl) (by rfl) ?_ (by assumption) ?_; rotate_left; (focus (intro w0 hSw; (try dsimp only at hSw); go_simp; (try with_reducible rfl); done)); try simp only [Act.put, List.setIfInBounds_toArray, List.set_cons_zero, List.set_cons_succ]); (refine take_t (i := 5) (d := 26) (oi := _) (v := ?_) rfl rfl (by kernel_rfl) (by kernel_rfl) (by kernel_rfl) (by rfl) ?_ (by assumption) ?_; rotate_left; (focus (intro w0 hSw; (try dsimp only at hSw); go_simp; (try with_reducible rfl); done)); try simp only [Act.put, List.setIfInBounds_toArray, List.set_cons_zero, List.set_cons_succ]); (refine take_t (i := 6) (d := 20) (oi := _) (v := ?_) rfl rfl (by kernel_rfl) (by kernel_rfl) (by kernel_rfl) (by rfl) ?_ (by assumption) ?_; rotate_left; (focus (intro w0 hSw; (try dsimp only at hSw); go_simp; (try with_reducible rfl); done)); try simp only [Act.put, List.setIfInBounds_toArray, List.set_cons_zero, List.set_cons_succ]); (refine take_t (i := 7) (d := 27) (oi := _) (v := ?_) rfl rfl (by kernel_rfl) (by kernel_rfl) (by kernel_rfl) (by rfl) ?_ (by assumption) ?_; rotate_left; (focus (intro w0 hSw; (try dsimp only at hSw); go_simp; (try with_reducible rfl); done)); try simp only [Act.put, List.setIfInBounds_toArray, List.set_cons_zero, List.set_cons_succ]); (refine take_t (i := 8) (d := 28) (oi := _) (v := ?_) rfl rfl (by kernel_rfl) (by kernel_rfl) (by kernel_rfl) (by rfl) ?_ (by assumption) ?_; rotate_left; (focus (intro w0 hSw; (try dsimp only at hSw); go_simp; (try with_reducible rfl); done)); try simp only [Act.put, List.setIfInBounds_toArray, List.set_cons_zero, List.set_cons_succ]); (refine wpAnyH_ready (rs := [9]) (by kernel_rfl) (by simp) ?_; refine AllReadyH.cons (o := _) rfl (fun K' hK => ?_) AllReadyH.nil; go_simp; (have hp1 := Lib.hid (hp0.out.alloc #[.string ⟨#[]⟩] 83).drew); (try dsimp only); refine hK.out _ _ ?_ (fun hHeld2 => ?_); (focus ((try dsimp only); first | exact hs1.out _ hp0.out.drew | exact hs2.out _ _ _ hp1.out; done)); clear hK K'; clear hHeld; have hHeld := hHeld2; clear hHeld2; try simp only [Act.put, List.setIfInBounds_toArray, List.set_cons_zero, List.set_cons_succ]); (refine wpAnyH_ready (rs := [10]) (by kernel_rfl) (by simp) ?_; refine AllReadyH.cons (o := _) rfl (fun K' hK => ?_) AllReadyH.nil; go_simp; (replace hp1 := Lib.hid (hp0.out.alloc #[.string T0] 83).drew); (try dsimp only); refine hK.out _ _ ?_ (fun hHeld2 => ?_); (focus ((try dsimp only); first | exact hs1.out _ hp0.out.drew | exact hs2.out _ _ _ hp1.out; done)); clear hK K'; clear hHeld; have hHeld := hHeld2; clear hHeld2; try simp only [Act.put, List.setIfInBounds_toArray, List.set_cons_zero, List.set_cons_succ]); (refine take_t (i := 11) (d := 7) (oi := _) (v := ?_) rfl rfl (by kernel_rfl) (by kernel_rfl) (by kernel_rfl) (by rfl) ?_ (by assumption) ?_; rotate_left; (focus (intro w0 hSw; (try dsimp only at hSw); go_simp; (try with_reducible rfl); done)); try simp only [Act.put, List.setIfInBounds_toArray, List.set_cons_zero, List.set_cons_succ]); refine wpAnyH_done (by kernel_rfl) ?_ _; refine NoPanic.normal ?_
  clear hp0 hHeld hs1 hs2
  have c11 : W1.cell? ⟨p, 11, none⟩ = W1.cell? ⟨p, 11, none⟩ := rfl
  clear c11
  generalize hq3 : W1.heap.size = q3 at hp1 ⊢
  generalize World.drew _ = W2 at hp1 ⊢
  clear hq3
  have d11 : W2.cell? ⟨p, 11, none⟩ = some (.int .i64 aga) := hp1.out.cell (i := 1) rfl 11
  have f11 := hp1.out.free (i := 1) rfl 11
  go_upto_region 6 with fail
  have hp2 := Lib.hid (hp1.out.put (i := 1) rfl 11 (.int .i64 (aga + 1)))
  clear hp1 d11 f11
  generalize World.setCell _ _ _ = W3 at hp2 ⊢
  have t0 : W3.cell? ⟨q3, 0, none⟩ = some (.string T0) := hp2.out.cell (i := 0) rfl 0
  go_wp2
  go_returns
  exact ⟨rfl, (hp2.out.drop 0).drop 8⟩
set_option maxHeartbeats 8000000 in
theorem read_fetch {p d g b sg c : Nat} {key : List UInt8} {reg : ByteArray} {x : PSt} {ds : disk.DSt} {bs : sha.BSt} {fi pl le : Int} {f : Int → Bool} {cc fc : Nat} {ff : Int → Bool} {k : Kp} (h : Hp w X (pg p x :: dev d (str key) reg c g :: dsk g ds :: bk b bs :: sp sg fi pl le f cc :: mset x.fm ff fc :: kmap x.km k :: kque x.eld k :: rs) W) (hT : SaltIn w X) (hxg : x.g = g) (hxd : x.d = d) (hxb : x.b = b) (hxs : x.s = sg) (hfe : 0 ≤ x.fet ∧ x.fet < 1000000000) (hkey : key.length ≤ 1000000)
    (hd : ds.dead = false) (n : Nat) (hn : n < ds.sure.length) (hl : ds.sure.length ≤ 4096) (hbc : bs.c ≤ 8192) (sum B : List UInt8) (hB : ds.see n = B) (hBl : B.length = 512) (hsl : sum.length = 32) (hk : k.f (rk (n : Int) sum) = none) (hm : 1 ≤ x.most ∧ x.most ≤ 256) (hes : k.es.length ≤ 256) (hkc : k.c ≤ 1000) (hgood : ∀ r ∈ k.es, (Lit.int .i64 r.1).wf = true ∧ r.2.length ≤ 1000000000) (hgs : (fch key n B sum).s.length ≤ 1000000) :
    Calls Tryz.prog 10 #[.pointer (some ⟨p, 0, none⟩), .agg #[.int .i64 (n : Int), .string (str sum)]] W fun e w' =>
      e = .returned (.tuple #[.string (str (if (fch key n B sum).err = 0 then (fch key n B sum).s else [])), .int .i64 ((fch key n B sum).err : Int)]) ∧
      ∃ v, Hp w X (pg p { x.more with eld := v } :: dev d (str key) reg c g :: dsk g ds :: bk b (fchB bs B sum) :: sp sg fi pl le f cc :: mset x.fm ff fc :: kmap x.km (if (fch key n B sum).err = 0 then k.keep x.most (n : Int) sum (fch key n B sum).s else k) :: kque v (if (fch key n B sum).err = 0 then k.keep x.most (n : Int) sum (fch key n B sum).s else k) :: rs) w' := by
  obtain ⟨xg, xd, xb, xs, xe, xc, xi, km, eld, most, fet, aga, fm, dro⟩ := x
  simp only [PSt.more] at *
  subst hxg; subst hxd; subst hxb; subst hxs
  have hp0 := toEnd8 (h.alloc #[.int .i64 (n : Int), .string (str sum)] 34)
  obtain ⟨bb, hbb⟩ : ∃ b, b = (k.f (rk (n : Int) sum)).isSome := ⟨_, rfl⟩
  obtain ⟨T0, hT0⟩ : ∃ b, b = str ((k.f (rk (n : Int) sum)).getD []) := ⟨_, rfl⟩
  have hs1 : ∀ W', Hp w X (pg p ⟨xg, xd, xb, xs, xe, xc, xi, km, eld, most, fet, aga, fm, dro⟩ :: dev xd (str key) reg c xg :: dsk xg ds :: bk xb bs :: (sp xs fi pl le f cc) :: (mset fm ff fc) :: kmap km k :: kque eld k :: (.box W.heap.size #[.int .i64 (n : Int), .string (str sum)] 34 :: rs)) W' → W'.cell? ⟨p, 7, none⟩ = some (.map (some km)) ∧ (W'.cell? ⟨W.heap.size, 0, none⟩ = some (.int .i64 (n : Int)) ∧ W'.cell? ⟨W.heap.size, 1, none⟩ = some (.string (str sum))) ∧ (Instr.lookup 85 (.map (some km)) (.agg #[.int .i64 (n : Int), .string (str sum)]) true).run Tryz.prog W' = .ok (.tuple #[.agg #[.string T0], .bool bb]) W' := fun W' h' =>
    ⟨h'.cell (i := 0) rfl 7, ⟨h'.cell (i := 8) rfl 0, h'.cell (i := 8) rfl 1⟩, by rw [hbb, hT0]; exact kmap_look h' (i := 6) rfl (wf_i64 (by omega)) (by omega) W' rfl⟩
  have hs2 : ∀ g V W', Hp w X (.box g #[V] 83 :: (pg p ⟨xg, xd, xb, xs, xe, xc, xi, km, eld, most, fet, aga, fm, dro⟩ :: dev xd (str key) reg c xg :: dsk xg ds :: bk xb bs :: (sp xs fi pl le f cc) :: (mset fm ff fc) :: kmap km k :: kque eld k :: (.box W.heap.size #[.int .i64 (n : Int), .string (str sum)] 34 :: rs))) W' → W'.cell? ⟨p, 7, none⟩ = some (.map (some km)) ∧ (W'.cell? ⟨W.heap.size, 0, none⟩ = some (.int .i64 (n : Int)) ∧ W'.cell? ⟨W.heap.size, 1, none⟩ = some (.string (str sum))) ∧ (Instr.lookup 85 (.map (some km)) (.agg #[.int .i64 (n : Int), .string (str sum)]) true).run Tryz.prog W' = .ok (.tuple #[.agg #[.string T0], .bool bb]) W' := fun g V W' h' => hs1 W' (h'.drop 0)
  rw [hk] at hbb hT0
  simp only [Option.isSome_none, Option.getD_none] at hbb hT0
  have hsz : ((str sum).size : Int) = 32 := by rw [str_size, hsl]; rfl
  have kF : ∀ W' l, Hp w X (pg p ⟨xg, xd, xb, xs, xe, xc, xi, km, eld, most, fet, aga, fm, dro⟩ :: dev xd (str key) reg c xg :: dsk xg ds :: bk xb bs :: (sp xs fi pl le f cc) :: (mset fm ff fc) :: kmap km k :: kque eld k :: l) W' → Calls Tryz.prog 24 #[.pointer (some ⟨p, 0, none⟩), .int .i64 (n : Int), .string (str sum)] W' fun e w' => e = .returned (fchV key n B sum) ∧ Hp w X (pg p ⟨xg, xd, xb, xs, xe, xc, xi, km, eld, most, (fet + 1), aga, fm, dro⟩ :: dev xd (str key) reg c xg :: dsk xg ds :: bk xb (fchB bs B sum) :: (sp xs fi pl le f cc) :: (mset fm ff fc) :: kmap km k :: kque eld k :: l) w' := fun W' l h' => fetch_any h' hT rfl rfl rfl hfe hkey hd n hn hl hbc sum B hB hBl
  obtain ⟨bs2, hbs2⟩ : ∃ x, x = fchB bs B sum := ⟨_, rfl⟩
  rw [← hbs2] at kF ⊢
  obtain ⟨G, hG⟩ : ∃ G, G = fch key n B sum := ⟨_, rfl⟩
  unfold fchV at kF
  rw [← hG] at kF hgs ⊢
  obtain ⟨ge, gc, gi, gs, gr⟩ := G
  simp only at *
  have kK : ∀ W' l, Hp w X (pg p ⟨xg, xd, xb, xs, xe, xc, xi, km, eld, most, (fet + 1), aga, fm, dro⟩ :: dev xd (str key) reg c xg :: dsk xg ds :: bk xb bs2 :: (sp xs fi pl le f cc) :: (mset fm ff fc) :: kmap km k :: kque eld k :: l) W' → Calls Tryz.prog 35 #[.pointer (some ⟨p, 0, none⟩), .agg #[.int .i64 (n : Int), .string (str sum)], .string (str gs)] W' fun e w' => e = .returned (.tuple #[]) ∧ ∃ v, Hp w X (pg p ⟨xg, xd, xb, xs, xe, xc, xi, km, v, most, (fet + 1), aga, fm, dro⟩ :: dev xd (str key) reg c xg :: dsk xg ds :: bk xb bs2 :: (sp xs fi pl le f cc) :: (mset fm ff fc) :: kmap km (k.keep most (n : Int) sum gs) :: kque v (k.keep most (n : Int) sum gs) :: l) w' := fun W' l h' =>
    (keep_any (toKeep h') hm hes hkc (n : Int) (wf_i64 (by omega)) sum gs (by omega) (by omega) hgood).mono fun e w' ⟨he, v, h2⟩ => ⟨he, v, fromKeep h2⟩
  obtain ⟨k2, hk2⟩ : ∃ x, x = k.keep most (n : Int) sum gs := ⟨_, rfl⟩
  rw [← hk2] at kK ⊢
  obtain ⟨SB, hSB⟩ : ∃ x, x = str (if gr = 0 then B else []) := ⟨_, rfl⟩
  rw [← hSB] at kF
  obtain ⟨SM, hSM⟩ : ∃ S, S = str sum := ⟨_, rfl⟩
  rw [← hSM] at hp0 hs1 hs2 hsz kF kK ⊢
  replace hp0 := Lib.hid hp0; replace hs1 := Lib.hid hs1; replace hs2 := Lib.hid hs2; replace kF := Lib.hid kF; replace kK := Lib.hid kK
  subst hbb
  clear h hT hT0 hSM hk hsl hn hfe hkey hd hl hbc hB hBl hm hes hkc hgood hgs hbs2 hG hk2 hSB
  by_cases hr : gr = 0
  · subst hr
    rw [if_pos rfl, if_pos rfl]
    have q1 : (W.alloc (.cells #[.int .i64 (n : Int), .string SM] 34)).cell? ⟨W.heap.size, 1, none⟩ = some (.string SM) := hp0.out.cell (i := 8) rfl 1
    go_enter Tryz.func10, Tryz.ntmps10
    go_upto_region 3 with fail
    generalize hq : W.alloc _ = W1 at *
    generalize hq2 : W.heap.size = q at *
    clear hq hq2 q1
    refine wp_region_noPanic ?_; refine wp_region_held_drew (S := (fun W' => W'.cell? ⟨p, 7, none⟩ = some (.map (some km)) ∧ (W'.cell? ⟨q, 0, none⟩ = some (.int .i64 (n : Int)) ∧ W'.cell? ⟨q, 1, none⟩ = some (.string SM)) ∧ (Instr.lookup 85 (.map (some km)) (.agg #[.int .i64 (n : Int), .string SM]) true).run Tryz.prog W' = .ok (.tuple #[.agg #[.string T0], .bool false]) W')) (by kernel_rfl) ?_ (fun hHeld => ?_); (focus ((try dsimp only); first | exact hs1.out _ hp0.out.drew | exact hs2.out _ _ _ hp1.out; done)); (refine take_t (i := 0) (d := 21) (oi := _) (v := ?_) rfl rfl (by kernel_rfl) (by kernel_rfl) (by kernel_rfl) (by rfl) ?_ (by assumption) ?_; rotate_left; (focus (intro w0 hSw; (try dsimp only at hSw); go_simp; (try with_reducible rfl); done)); try simp only [Act.put, List.setIfInBounds_toArray, List.set_cons_zero, List.set_cons_succ]); (refine take_t (i := 1) (d := 22) (oi := _) (v := ?_) rfl rfl (by kernel_rfl) (by kernel_rfl) (by kernel_rfl) (by rfl) ?_ (by assumption) ?_; rotate_left; (focus (intro w0 hSw; (try dsimp only at hSw); go_simp; (try with_reducible rfl); done)); try simp only [Act.put, List.setIfInBounds_toArray, List.set_cons_zero, List.set_cons_succ]); (refine take_t (i := 2) (d := 23) (oi := _) (v := ?_) rfl rfl (by kernel_rfl) (by kernel_rfl) (by kernel_rfl) (by rfl) ?_ (by assumption) ?_; rotate_left; (focus (intro w0 hSw; (try dsimp only at hSw); go_simp; (try with_reducible rfl); done)); try simp only [Act.put, List.setIfInBounds_toArray, List.set_cons_zero, List.set_cons_succ]); (refine take_t (i := 3) (d := 24) (oi := _) (v := ?_) rfl rfl (by kernel_rfl) (by kernel_rfl) (by kernel_rfl) (by rfl) ?_ (by assumption) ?_; rotate_left; (focus (intro w0 hSw; (try dsimp only at hSw); go_simp; (try with_reducible rfl); done)); try simp only [Act.put, List.setIfInBounds_toArray, List.set_cons_zero, List.set_cons_succ]); (refine take_t (i := 4) (d := 25) (oi := _) (v := ?_) rfl rfl (by kernel_rfl) (by kernel_rfl) (by kernel_rfl) (by rfl) ?_ (by assumption) ?_; rotate_left; (focus (intro w0 hSw; (try dsimp only at hSw); go_simp; (try with_reducible rfl); done)); try simp only [Act.put, List.setIfInBounds_toArray, List.set_cons_zero, List.set_cons_succ]); (refine take_t (i := 5) (d := 26) (oi := _) (v := ?_) rfl rfl (by kernel_rfl) (by kernel_rfl) (by kernel_rfl) (by rfl) ?_ (by assumption) ?_; rotate_left; (focus (intro w0 hSw; (try dsimp only at hSw); go_simp; (try with_reducible rfl); done)); try simp only [Act.put, List.setIfInBounds_toArray, List.set_cons_zero, List.set_cons_succ]); (refine take_t (i := 6) (d := 20) (oi := _) (v := ?_) rfl rfl (by kernel_rfl) (by kernel_rfl) (by kernel_rfl) (by rfl) ?_ (by assumption) ?_; rotate_left; (focus (intro w0 hSw; (try dsimp only at hSw); go_simp; (try with_reducible rfl); done)); try simp only [Act.put, List.setIfInBounds_toArray, List.set_cons_zero, List.set_cons_succ]); (refine take_t (i := 7) (d := 27) (oi := _) (v := ?_) rfl rfl (by kernel_rfl) (by kernel_rfl) (by kernel_rfl) (by rfl) ?_ (by assumption) ?_; rotate_left; (focus (intro w0 hSw; (try dsimp only at hSw); go_simp; (try with_reducible rfl); done)); try simp only [Act.put, List.setIfInBounds_toArray, List.set_cons_zero, List.set_cons_succ]); (refine take_t (i := 8) (d := 28) (oi := _) (v := ?_) rfl rfl (by kernel_rfl) (by kernel_rfl) (by kernel_rfl) (by rfl) ?_ (by assumption) ?_; rotate_left; (focus (intro w0 hSw; (try dsimp only at hSw); go_simp; (try with_reducible rfl); done)); try simp only [Act.put, List.setIfInBounds_toArray, List.set_cons_zero, List.set_cons_succ]); (refine wpAnyH_ready (rs := [9]) (by kernel_rfl) (by simp) ?_; refine AllReadyH.cons (o := _) rfl (fun K' hK => ?_) AllReadyH.nil; go_simp; (have hp1 := Lib.hid (hp0.out.alloc #[.string ⟨#[]⟩] 83).drew); (try dsimp only); refine hK.out _ _ ?_ (fun hHeld2 => ?_); (focus ((try dsimp only); first | exact hs1.out _ hp0.out.drew | exact hs2.out _ _ _ hp1.out; done)); clear hK K'; clear hHeld; have hHeld := hHeld2; clear hHeld2; try simp only [Act.put, List.setIfInBounds_toArray, List.set_cons_zero, List.set_cons_succ]); (refine wpAnyH_ready (rs := [10]) (by kernel_rfl) (by simp) ?_; refine AllReadyH.cons (o := _) rfl (fun K' hK => ?_) AllReadyH.nil; go_simp; (replace hp1 := Lib.hid (hp0.out.alloc #[.string T0] 83).drew); (try dsimp only); refine hK.out _ _ ?_ (fun hHeld2 => ?_); (focus ((try dsimp only); first | exact hs1.out _ hp0.out.drew | exact hs2.out _ _ _ hp1.out; done)); clear hK K'; clear hHeld; have hHeld := hHeld2; clear hHeld2; try simp only [Act.put, List.setIfInBounds_toArray, List.set_cons_zero, List.set_cons_succ]); (refine take_t (i := 11) (d := 7) (oi := _) (v := ?_) rfl rfl (by kernel_rfl) (by kernel_rfl) (by kernel_rfl) (by rfl) ?_ (by assumption) ?_; rotate_left; (focus (intro w0 hSw; (try dsimp only at hSw); go_simp; (try with_reducible rfl); done)); try simp only [Act.put, List.setIfInBounds_toArray, List.set_cons_zero, List.set_cons_succ]); refine wpAnyH_done (by kernel_rfl) ?_ _; refine NoPanic.normal ?_
    clear hp0 hHeld hs1 hs2
    generalize hq3 : W1.heap.size = q3 at hp1 ⊢
    generalize World.drew _ = W2 at hp1 ⊢
    clear hq3
    replace hp1 := Lib.hid (toEnd8 hp1.out)
    have d0 : W2.cell? ⟨q, 0, none⟩ = some (.int .i64 (n : Int)) := hp1.out.cell (i := 9) rfl 0
    have d1 : W2.cell? ⟨q, 1, none⟩ = some (.string SM) := hp1.out.cell (i := 9) rfl 1
    go_upto_region 8 with (go_at_call 24; (with_reducible refine (kF.out _ _ hp1.out).mono ?_); rintro e w4 ⟨rfl, h4⟩; have hp4 := Lib.hid h4; clear h4)
    clear d0 d1 hp1
    have hp5 := Lib.hid (toEnd8 (hp4.out.alloc #[.int .u32 (ge : Int), .int .u64 (gc : Int), .int .u32 (gi : Int)] 59))
    clear hp4
    generalize World.alloc _ _ = W5 at hp5 ⊢
    generalize w4.heap.size = q4 at hp5 ⊢
    have d0 : W5.cell? ⟨q, 0, none⟩ = some (.int .i64 (n : Int)) := hp5.out.cell (i := 10) rfl 0
    have d1 : W5.cell? ⟨q, 1, none⟩ = some (.string SM) := hp5.out.cell (i := 10) rfl 1
    go_wp2_with (go_at_call 35; (with_reducible refine (kK.out _ _ hp5.out).mono ?_); rintro e w6 ⟨rfl, v, h6⟩; have hp6 := Lib.hid h6; clear h6)
    go_returns
    exact ⟨rfl, v, ((hp6.out.drop 8).drop 8).drop 8⟩
  · have hr1 : ¬ ((gr : Int) = 0) := by omega
    rw [if_neg hr, if_neg hr]
    have q1 : (W.alloc (.cells #[.int .i64 (n : Int), .string SM] 34)).cell? ⟨W.heap.size, 1, none⟩ = some (.string SM) := hp0.out.cell (i := 8) rfl 1
    go_enter Tryz.func10, Tryz.ntmps10
    go_upto_region 3 with fail
    generalize hq : W.alloc _ = W1 at *
    generalize hq2 : W.heap.size = q at *
    clear hq hq2 q1
    refine wp_region_noPanic ?_; refine wp_region_held_drew (S := (fun W' => W'.cell? ⟨p, 7, none⟩ = some (.map (some km)) ∧ (W'.cell? ⟨q, 0, none⟩ = some (.int .i64 (n : Int)) ∧ W'.cell? ⟨q, 1, none⟩ = some (.string SM)) ∧ (Instr.lookup 85 (.map (some km)) (.agg #[.int .i64 (n : Int), .string SM]) true).run Tryz.prog W' = .ok (.tuple #[.agg #[.string T0], .bool false]) W')) (by kernel_rfl) ?_ (fun hHeld => ?_); (focus ((try dsimp only); first | exact hs1.out _ hp0.out.drew | exact hs2.out _ _ _ hp1.out; done)); (refine take_t (i := 0) (d := 21) (oi := _) (v := ?_) rfl rfl (by kernel_rfl) (by kernel_rfl) (by kernel_rfl) (by rfl) ?_ (by assumption) ?_; rotate_left; (focus (intro w0 hSw; (try dsimp only at hSw); go_simp; (try with_reducible rfl); done)); try simp only [Act.put, List.setIfInBounds_toArray, List.set_cons_zero, List.set_cons_succ]); (refine take_t (i := 1) (d := 22) (oi := _) (v := ?_) rfl rfl (by kernel_rfl) (by kernel_rfl) (by kernel_rfl) (by rfl) ?_ (by assumption) ?_; rotate_left; (focus (intro w0 hSw; (try dsimp only at hSw); go_simp; (try with_reducible rfl); done)); try simp only [Act.put, List.setIfInBounds_toArray, List.set_cons_zero, List.set_cons_succ]); (refine take_t (i := 2) (d := 23) (oi := _) (v := ?_) rfl rfl (by kernel_rfl) (by kernel_rfl) (by kernel_rfl) (by rfl) ?_ (by assumption) ?_; rotate_left; (focus (intro w0 hSw; (try dsimp only at hSw); go_simp; (try with_reducible rfl); done)); try simp only [Act.put, List.setIfInBounds_toArray, List.set_cons_zero, List.set_cons_succ]); (refine take_t (i := 3) (d := 24) (oi := _) (v := ?_) rfl rfl (by kernel_rfl) (by kernel_rfl) (by kernel_rfl) (by rfl) ?_ (by assumption) ?_; rotate_left; (focus (intro w0 hSw; (try dsimp only at hSw); go_simp; (try with_reducible rfl); done)); try simp only [Act.put, List.setIfInBounds_toArray, List.set_cons_zero, List.set_cons_succ]); (refine take_t (i := 4) (d := 25) (oi := _) (v := ?_) rfl rfl (by kernel_rfl) (by kernel_rfl) (by kernel_rfl) (by rfl) ?_ (by assumption) ?_; rotate_left; (focus (intro w0 hSw; (try dsimp only at hSw); go_simp; (try with_reducible rfl); done)); try simp only [Act.put, List.setIfInBounds_toArray, List.set_cons_zero, List.set_cons_succ]); (refine take_t (i := 5) (d := 26) (oi := _) (v := ?_) rfl rfl (by kernel_rfl) (by kernel_rfl) (by kernel_rfl) (by rfl) ?_ (by assumption) ?_; rotate_left; (focus (intro w0 hSw; (try dsimp only at hSw); go_simp; (try with_reducible rfl); done)); try simp only [Act.put, List.setIfInBounds_toArray, List.set_cons_zero, List.set_cons_succ]); (refine take_t (i := 6) (d := 20) (oi := _) (v := ?_) rfl rfl (by kernel_rfl) (by kernel_rfl) (by kernel_rfl) (by rfl) ?_ (by assumption) ?_; rotate_left; (focus (intro w0 hSw; (try dsimp only at hSw); go_simp; (try with_reducible rfl); done)); try simp only [Act.put, List.setIfInBounds_toArray, List.set_cons_zero, List.set_cons_succ]); (refine take_t (i := 7) (d := 27) (oi := _) (v := ?_) rfl rfl (by kernel_rfl) (by kernel_rfl) (by kernel_rfl) (by rfl) ?_ (by assumption) ?_; rotate_left; (focus (intro w0 hSw; (try dsimp only at hSw); go_simp; (try with_reducible rfl); done)); try simp only [Act.put, List.setIfInBounds_toArray, List.set_cons_zero, List.set_cons_succ]); (refine take_t (i := 8) (d := 28) (oi := _) (v := ?_) rfl rfl (by kernel_rfl) (by kernel_rfl) (by kernel_rfl) (by rfl) ?_ (by assumption) ?_; rotate_left; (focus (intro w0 hSw; (try dsimp only at hSw); go_simp; (try with_reducible rfl); done)); try simp only [Act.put, List.setIfInBounds_toArray, List.set_cons_zero, List.set_cons_succ]); (refine wpAnyH_ready (rs := [9]) (by kernel_rfl) (by simp) ?_; refine AllReadyH.cons (o := _) rfl (fun K' hK => ?_) AllReadyH.nil; go_simp; (have hp1 := Lib.hid (hp0.out.alloc #[.string ⟨#[]⟩] 83).drew); (try dsimp only); refine hK.out _ _ ?_ (fun hHeld2 => ?_); (focus ((try dsimp only); first | exact hs1.out _ hp0.out.drew | exact hs2.out _ _ _ hp1.out; done)); clear hK K'; clear hHeld; have hHeld := hHeld2; clear hHeld2; try simp only [Act.put, List.setIfInBounds_toArray, List.set_cons_zero, List.set_cons_succ]); (refine wpAnyH_ready (rs := [10]) (by kernel_rfl) (by simp) ?_; refine AllReadyH.cons (o := _) rfl (fun K' hK => ?_) AllReadyH.nil; go_simp; (replace hp1 := Lib.hid (hp0.out.alloc #[.string T0] 83).drew); (try dsimp only); refine hK.out _ _ ?_ (fun hHeld2 => ?_); (focus ((try dsimp only); first | exact hs1.out _ hp0.out.drew | exact hs2.out _ _ _ hp1.out; done)); clear hK K'; clear hHeld; have hHeld := hHeld2; clear hHeld2; try simp only [Act.put, List.setIfInBounds_toArray, List.set_cons_zero, List.set_cons_succ]); (refine take_t (i := 11) (d := 7) (oi := _) (v := ?_) rfl rfl (by kernel_rfl) (by kernel_rfl) (by kernel_rfl) (by rfl) ?_ (by assumption) ?_; rotate_left; (focus (intro w0 hSw; (try dsimp only at hSw); go_simp; (try with_reducible rfl); done)); try simp only [Act.put, List.setIfInBounds_toArray, List.set_cons_zero, List.set_cons_succ]); refine wpAnyH_done (by kernel_rfl) ?_ _; refine NoPanic.normal ?_
    clear hp0 hHeld hs1 hs2
    generalize hq3 : W1.heap.size = q3 at hp1 ⊢
    generalize World.drew _ = W2 at hp1 ⊢
    clear hq3
    replace hp1 := Lib.hid (toEnd8 hp1.out)
    have d0 : W2.cell? ⟨q, 0, none⟩ = some (.int .i64 (n : Int)) := hp1.out.cell (i := 9) rfl 0
    have d1 : W2.cell? ⟨q, 1, none⟩ = some (.string SM) := hp1.out.cell (i := 9) rfl 1
    go_upto_region 8 with (go_at_call 24; (with_reducible refine (kF.out _ _ hp1.out).mono ?_); rintro e w4 ⟨rfl, h4⟩; have hp4 := Lib.hid h4; clear h4)
    clear d0 d1 hp1
    have hp5 := Lib.hid (toEnd8 (hp4.out.alloc #[.int .u32 (ge : Int), .int .u64 (gc : Int), .int .u32 (gi : Int)] 59))
    clear hp4
    generalize World.alloc _ _ = W5 at hp5 ⊢
    generalize w4.heap.size = q4 at hp5 ⊢
    go_wp2
    go_returns
    exact ⟨rfl, eld, ((hp5.out.drop 8).drop 8).drop 8⟩
theorem read_short {pq : Option Addr} (n : Int) (sum : ByteArray) (hs : pq = none ∨ ¬ sum.size = 32) (W : World) : Calls Tryz.prog 10 #[.pointer pq, .agg #[.int .i64 n, .string sum]] W fun e w' => e = .returned (.tuple #[.string ⟨#[]⟩, .int .i64 1]) ∧ Below W.heap.size W w' := by
  have hp := Lib.hid ((Hp.none_ W []).alloc #[.int .i64 n, .string sum] 34)
  have b1 := hp.out.cell (i := 0) rfl 1
  simp at b1
  cases pq with
  | none =>
    go_enter Tryz.func10, Tryz.ntmps10
    go_wp2
    go_returns
    exact ⟨rfl, hp.out.bel⟩
  | some a =>
    have h1 : ¬ ((sum.size : Int) = 32) := by rcases hs with h | h; cases h; omega
    clear hs
    go_enter Tryz.func10, Tryz.ntmps10
    go_wp2
    go_returns
    exact ⟨rfl, hp.out.bel⟩
end
end Go.Proofs.YtcdcipfojfnblaaGreatDoor.pager
