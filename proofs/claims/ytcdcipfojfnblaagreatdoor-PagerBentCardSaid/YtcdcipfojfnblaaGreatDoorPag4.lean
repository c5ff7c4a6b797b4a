/- The pager (package pager): a new page, and reading one. The table of salts is a premise. -/
import Derived.Test.YtcdcipfojfnblaaGreatDoorPag2
import Derived.Test.YtcdcipfojfnblaaGreatDoorPag3
namespace Go.Proofs.YtcdcipfojfnblaaGreatDoor.pager
open Go.RowKit mach mpr
attribute [local go_sem ↓] Go.wp_at_zero Go.wp_at_succ
set_option linter.unusedVariables false
set_option linter.unusedSimpArgs false
set_option maxRecDepth 100000

section
variable {w W : World} {X : List Nat} {rs : List Rs}
theorem toKeep {a b c d e f g h : Rs} (H : Hp w X (a :: b :: c :: d :: e :: f :: g :: h :: rs) W) : Hp w X (a :: g :: h :: b :: c :: d :: e :: f :: rs) W := by
  have := ((H.front 7 rfl).front 7 rfl).front 2 rfl
  exact this
theorem fromKeep {a b c d e f g h : Rs} (H : Hp w X (a :: g :: h :: b :: c :: d :: e :: f :: rs) W) : Hp w X (a :: b :: c :: d :: e :: f :: g :: h :: rs) W := by
  have := (((((((H.front 2 rfl).front 2 rfl).front 7 rfl).front 7 rfl).front 7 rfl).front 7 rfl).front 7 rfl).front 7 rfl
  exact this
theorem toEnd8 {r a b c d e f g h : Rs} (H : Hp w X (r :: a :: b :: c :: d :: e :: f :: g :: h :: rs) W) : Hp w X (a :: b :: c :: d :: e :: f :: g :: h :: r :: rs) W := by
  have := (((((((H.front 8 rfl).front 8 rfl).front 8 rfl).front 8 rfl).front 8 rfl).front 8 rfl).front 8 rfl).front 8 rfl
  exact this
theorem ref_results (fn : Func) (tmps : Array Value) (W' : World) (i j g : Nat) (cs : Array Value) (a : Value) (hr : fn.results = #[.cell i 34, .tmp j]) (h4 : tmps.getD i undef = .pointer (some ⟨g, 0, none⟩)) (h5 : tmps.getD j undef = a) (hg : W'.heap[g]? = some (.cells cs 34 (0, 0))) (hi : cs.size = 2) :
    (results fn tmps).run Tryz.prog W' = .ok (.tuple #[.agg cs, a]) W' := by
  have h4' : tmps[i]?.getD undef = .pointer (some ⟨g, 0, none⟩) := by simpa using h4
  have h5' : tmps[j]?.getD undef = a := by simpa using h5
  have hs : (Tryz.prog.info? 34).map (·.size) = some cs.size := by rw [hi]; kernel_rfl
  simp [results, hr, h4', h5', asAddr, run_loadVar_row W' g 34 34 cs (0, 0) _ hg Tryz.underlying34 rfl hs]
set_option maxHeartbeats 8000000 in
theorem write_any {p d g b sg c : Nat} {key : List UInt8} {reg : ByteArray} {x : PSt} {ds : disk.DSt} {bs : sha.BSt} {fi pl le : Int} {f : Int → Bool} {cc fc : Nat} {ff : Int → Bool} {k : Kp} (h : Hp w X (pg p x :: dev d (str key) reg c g :: dsk g ds :: bk b bs :: sp sg fi pl le f cc :: mset x.fm ff fc :: kmap x.km k :: kque x.eld k :: rs) W) (hT : SaltIn w X) (hxg : x.g = g) (hxd : x.d = d) (hxb : x.b = b) (hxs : x.s = sg) (hix : x.ix < 1000000) (hep : x.ep < 4294967296) (hc : c < 1000000) (hkey : key.length ≤ 1000000)
    (hd : ds.dead = false) (ha : ds.acts < 1000000) (n : Nat) (hn : n < ds.sure.length) (hl : ds.sure.length ≤ 4096) (hr : ds.row.length < 100000) (hbc : bs.c ≤ 8192) (t : List UInt8) (ht : t.length ≤ 462)
    (q1 : 0 ≤ fi) (q2 : fi ≤ pl) (q3 : pl ≤ 4294967296) (q4 : (cc : Int) < pl - fi) (q5 : fi ≤ le) (q6 : le ≤ (n : Int)) (q7 : (n : Int) < pl) (q8 : f (n : Int) = false) (q9 : ∀ y, fi ≤ y → y < (n : Int) → f y = true) (hfc : fc < 1000000) (hm : 1 ≤ x.most ∧ x.most ≤ 256) (hes : k.es.length ≤ 256) (hkc : k.c ≤ 1000) (hgood : ∀ r ∈ k.es, (Lit.int .i64 r.1).wf = true ∧ r.2.length ≤ 1000000000)
    (B : List UInt8) (hB : B = sha.blockB key x.ep c (nx c x) n t) (S : List UInt8) (hS : S = sha.shaB sha.salts B) :
    Calls Tryz.prog 15 #[.pointer (some ⟨p, 0, none⟩), .string (str t)] W fun e w' => e = .returned (.tuple #[.agg #[.int .i64 (n : Int), .string (str S)], .int .i64 0]) ∧
      ∃ v, Hp w X (pg p { x.headed c with eld := v } :: dev d (str key) reg c g :: dsk g (ds.wr n B) :: bk b (sha.noteS bs S B) :: sp sg fi pl (n : Int) (fun y => f y || y == (n : Int)) (cc + 1) :: mset x.fm (fun y => ff y || y == (n : Int)) (if ff (n : Int) then fc else fc + 1) :: kmap x.km (k.keep x.most (n : Int) S t) :: kque v (k.keep x.most (n : Int) S t) :: rs) w' := by
  obtain ⟨R, hR⟩ : ∃ R, R = nx c x := ⟨_, rfl⟩
  have hRx : x.headed c = { x with ct := c, ix := R } := by rw [hR]; rfl
  rw [hRx]
  clear hRx
  have hSl : S.length = 32 := by rw [hS]; exact sha.shaB_len _ _
  obtain ⟨xg, xd, xb, xs, xe, xc, xi, km, eld, most, fet, aga, fm, dro⟩ := x
  simp only at *
  subst hxg; subst hxd; subst hxb; subst hxs
  have hp0 := Lib.hid (toEnd8 (h.alloc #[.int .i64 0, .string ⟨#[]⟩] 34))
  have kT : ∀ W', Hp w X (pg p ⟨xg, xd, xb, xs, xe, xc, xi, km, eld, most, fet, aga, fm, dro⟩ :: dev xd (str key) reg c xg :: dsk xg ds :: bk xb bs :: (sp xs fi pl le f cc) :: (mset fm ff fc) :: kmap km k :: kque eld k :: (.box W.heap.size #[.int .i64 0, .string ⟨#[]⟩] 34 :: rs)) W' → Calls Tryz.prog 39 #[.pointer (some ⟨xs, 0, none⟩)] W' fun e w' => e = .returned (.int .i64 (n : Int)) ∧ Hp w X (pg p ⟨xg, xd, xb, xs, xe, xc, xi, km, eld, most, fet, aga, fm, dro⟩ :: dev xd (str key) reg c xg :: dsk xg ds :: bk xb bs :: (sp xs fi pl (n : Int) (fun y => f y || y == (n : Int)) (cc + 1)) :: (mset fm ff fc) :: kmap km k :: kque eld k :: (.box W.heap.size #[.int .i64 0, .string ⟨#[]⟩] 34 :: rs)) w' := fun W' h' => take_hp h' (i := 4) rfl q1 q2 q3 q4 q5 q6 q7 q8 q9
  obtain ⟨SP, hSP⟩ : ∃ SP, SP = sp xs fi pl (n : Int) (fun y => f y || y == (n : Int)) (cc + 1) := ⟨_, rfl⟩
  rw [← hSP] at kT ⊢
  have kL : ∀ W', Hp w X (pg p ⟨xg, xd, xb, xs, xe, xc, xi, km, eld, most, fet, aga, fm, dro⟩ :: dev xd (str key) reg c xg :: dsk xg ds :: bk xb bs :: SP :: (mset fm ff fc) :: kmap km k :: kque eld k :: (.box W.heap.size #[.int .i64 0, .string ⟨#[]⟩] 34 :: rs)) W' → Calls Tryz.prog 20 #[.pointer (some ⟨p, 0, none⟩), .int .i64 (n : Int), .string (str t)] W' fun e w' => e = .returned (.tuple #[.string (str S), .string (str B), .int .i64 0]) ∧ Hp w X (pg p ⟨xg, xd, xb, xs, xe, c, R, km, eld, most, fet, aga, fm, dro⟩ :: dev xd (str key) reg c xg :: dsk xg (ds.wr n B) :: bk xb (sha.noteS bs S B) :: SP :: (mset fm ff fc) :: kmap km k :: kque eld k :: (.box W.heap.size #[.int .i64 0, .string ⟨#[]⟩] 34 :: rs)) w' := fun W' h' => by
    have := lay_any h' hT rfl rfl rfl hix hep hc hkey hd ha n hn hl hr hbc t ht
    simp only [PSt.headed] at this
    rw [← hB, ← hS, ← hR] at this
    exact this
  obtain ⟨ds2, hds2⟩ : ∃ x, x = ds.wr n B := ⟨_, rfl⟩
  obtain ⟨bs2, hbs2⟩ : ∃ x, x = sha.noteS bs S B := ⟨_, rfl⟩
  rw [← hds2, ← hbs2] at kL ⊢
  have kF : ∀ W' bx, Hp w X (pg p ⟨xg, xd, xb, xs, xe, c, R, km, eld, most, fet, aga, fm, dro⟩ :: dev xd (str key) reg c xg :: dsk xg ds2 :: bk xb bs2 :: SP :: (mset fm ff fc) :: kmap km k :: kque eld k :: (bx ++ (.box W.heap.size #[.int .i64 0, .string ⟨#[]⟩] 34 :: rs))) W' → ∀ W'' D, W'.ownsMap Tryz.prog 3 unitElem fm fc D → Maps.size D = fc → (∀ x, Maps.has D (space.at_ x) = ff x) → W''.ownsMap Tryz.prog 3 unitElem fm (fc + 1) (D.put (space.at_ (n : Int)) (.agg [])) → W'.mapTurned W'' fm → Hp w X (pg p ⟨xg, xd, xb, xs, xe, c, R, km, eld, most, fet, aga, fm, dro⟩ :: dev xd (str key) reg c xg :: dsk xg ds2 :: bk xb bs2 :: SP :: (mset fm (fun y => ff y || y == (n : Int)) (if ff (n : Int) then fc else fc + 1)) :: kmap km k :: kque eld k :: (bx ++ (.box W.heap.size #[.int .i64 0, .string ⟨#[]⟩] 34 :: rs))) W'' := fun W' bx h' W'' D h1 h2 h3 h4 h5 => mset_put h' (i := 5) rfl space.keyed h1 h2 h3 h4 h5
  obtain ⟨MS, hMS⟩ : ∃ MS, MS = mset fm (fun y => ff y || y == (n : Int)) (if ff (n : Int) then fc else fc + 1) := ⟨_, rfl⟩
  rw [← hMS] at kF ⊢
  have kK : ∀ W' bx, Hp w X (pg p ⟨xg, xd, xb, xs, xe, c, R, km, eld, most, fet, aga, fm, dro⟩ :: dev xd (str key) reg c xg :: dsk xg ds2 :: bk xb bs2 :: SP :: MS :: kmap km k :: kque eld k :: (bx ++ (.box W.heap.size #[.int .i64 0, .string ⟨#[]⟩] 34 :: rs))) W' → Calls Tryz.prog 35 #[.pointer (some ⟨p, 0, none⟩), .agg #[.int .i64 (n : Int), .string (str S)], .string (str t)] W' fun e w' => e = .returned (.tuple #[]) ∧ ∃ v, Hp w X (pg p ⟨xg, xd, xb, xs, xe, c, R, km, v, most, fet, aga, fm, dro⟩ :: dev xd (str key) reg c xg :: dsk xg ds2 :: bk xb bs2 :: SP :: MS :: kmap km (k.keep most (n : Int) S t) :: kque v (k.keep most (n : Int) S t) :: (bx ++ (.box W.heap.size #[.int .i64 0, .string ⟨#[]⟩] 34 :: rs))) w' := fun W' bx h' =>
    (keep_any (toKeep h') hm hes hkc (n : Int) (wf_i64 (by omega)) S t (by omega) (by omega) hgood).mono fun e w' ⟨he, v, h2⟩ => ⟨he, v, fromKeep h2⟩
  obtain ⟨k2, hk2⟩ : ∃ x, x = k.keep most (n : Int) S t := ⟨_, rfl⟩
  rw [← hk2] at kK ⊢
  have hn2 : ¬ ((n : Int) < 0) := by omega
  have ht2 : ¬ (462 : Int) < ((str t).size : Int) := by rw [str_size]; omega
  have c3 : (W.alloc (.cells #[.int .i64 0, .string ⟨#[]⟩] 34)).cell? ⟨p, 3, none⟩ = some (.pointer (some ⟨xs, 0, none⟩)) := hp0.out.cell (i := 0) rfl 3
  have hkey3 := Lib.hid (Maps.keyOf_int_mk Tryz.underlying3 (wf_i64 (a := (n : Int)) (by omega)))
  replace kT := Lib.hid kT; replace kL := Lib.hid kL; replace kF := Lib.hid kF; replace kK := Lib.hid kK; replace hfc := Lib.hid hfc
  clear h hT hR hB hS hSl hSP hMS hds2 hbs2 hk2 hix hep hc hkey hd ha hn hl hr hbc ht q1 q2 q3 q4 q5 q6 q7 q8 q9 hm hes hkc hgood
  obtain ⟨T, hTT⟩ : ∃ T, T = str t := ⟨_, rfl⟩
  obtain ⟨SS, hSS⟩ : ∃ T, T = str S := ⟨_, rfl⟩
  rw [← hTT] at kL kK ht2 ⊢
  rw [← hSS] at kL kK ⊢
  clear hTT hSS
  go_enter Tryz.func15, Tryz.ntmps15
  go_upto_region 11 with (first
    | (go_at_call 39; (with_reducible refine (kT.out _ hp0.out).mono ?_); rintro e w1 ⟨rfl, h1⟩; have hp := Lib.hid h1; clear h1 hp0)
    | (go_at_call 20; (with_reducible refine (kL.out _ hp.out).mono ?_); rintro e w2 ⟨rfl, h1⟩; replace hp := Lib.hid h1; clear h1))
  have hpb := Lib.hid (toEnd8 (hp.out.alloc #[.int .i64 (n : Int), .string SS] 34))
  clear hp c3
  generalize hq2 : w2.heap.size = q2 at hpb ⊢
  generalize World.alloc _ _ = W3 at hpb ⊢
  clear hq2
  have e12 : W3.cell? ⟨p, 12, none⟩ = some (.map (some fm)) := hpb.out.cell (i := 0) rfl 12
  obtain ⟨D, o1, o2, o3⟩ := mset_get hpb.out (i := 5) rfl
  replace o2 := Lib.hid o2; replace o3 := Lib.hid o3
  go_upto_region 12 with (at_mapUpdate; refine wpList_mapUpdate_in _ rfl _ _ _ 87 rfl 3 92 space.keyed Tryz.underlying87 unitElem fm fc D rfl o1 ?hroom _ _ (space.at_ (n : Int)) rfl rfl hkey3.out _ [] unitElem_mk ?_; (case hroom => have := hfc.out; unfold maxLen; omega); intro W4 hown hturn; have hp4 := Lib.hid (kF.out _ [_] hpb.out _ _ o1 o2.out o3.out hown hturn); clear hown hturn)
  clear o1 o2 o3 e12 hpb
  have b0 : W4.cell? ⟨q2, 0, none⟩ = some (.int .i64 (n : Int)) := hp4.out.cell (i := 8) rfl 0
  have b1 : W4.cell? ⟨q2, 1, none⟩ = some (.string SS) := hp4.out.cell (i := 8) rfl 1
  go_upto_region 13 with (go_at_call 35; (with_reducible refine (kK.out _ [_] hp4.out).mono ?_); rintro e w5 ⟨rfl, v, h5⟩; have hp5 := Lib.hid h5; clear h5)
  clear b0 b1 hp4
  have b0 : w5.cell? ⟨q2, 0, none⟩ = some (.int .i64 (n : Int)) := hp5.out.cell (i := 8) rfl 0
  have b1 : w5.cell? ⟨q2, 1, none⟩ = some (.string SS) := hp5.out.cell (i := 8) rfl 1
  have a0 : w5.cell? ⟨W.heap.size, 0, none⟩ = some (.int .i64 0) := hp5.out.cell (i := 9) rfl 0
  have a1 : w5.cell? ⟨W.heap.size, 1, none⟩ = some (.string ⟨#[]⟩) := hp5.out.cell (i := 9) rfl 1
  have f0 := hp5.out.free (i := 9) rfl 0
  have f1 := hp5.out.free (i := 9) rfl 1
  go_wp2
  have fin := (hp5.out.put (i := 9) rfl 0 (.int .i64 (n : Int))).put (i := 9) rfl 1 (.string SS)
  exact bodyPost_ret (ref_results _ _ _ 4 5 W.heap.size #[.int .i64 (n : Int), .string SS] (.int .i64 0) rfl rfl rfl (fin.box (i := 9) rfl) rfl) rfl ⟨rfl, v, (fin.drop 8).drop 8⟩
end
end Go.Proofs.YtcdcipfojfnblaaGreatDoor.pager
