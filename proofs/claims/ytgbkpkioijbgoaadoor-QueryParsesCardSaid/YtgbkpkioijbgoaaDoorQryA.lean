/- A question is told aright at all (lodestonelaw33.awake). The tables of marks, of plain words and of what conditions are said with are premises. -/
import Derived.Test.YtgbkpkioijbgoaaDoorQry9
namespace Go.Proofs.YtgbkpkioijbgoaaDoor.qry
open Go.RowKit
open lex (W wv wordsL MarksAt WRow allcells)
open names (Nm mayN)
attribute [local go_sem ↓] Go.wp_at_zero Go.wp_at_succ
attribute [local go_sem] str_size str_bl
set_option linter.unusedVariables false
set_option linter.unusedSimpArgs false
set_option maxRecDepth 100000

def awakeT : List UInt8 := [102, 105, 110, 100, 32, 40, 97, 58, 80, 32, 123, 107, 58, 32, 53, 125, 41, 32, 45, 91, 101, 58, 107, 110, 111, 119, 115, 93, 45, 62, 32, 40, 98, 41, 32, 119, 104, 101, 114, 101, 32, 98, 46, 120, 32, 60, 32, 51, 32, 116, 101, 108, 108, 32, 97, 44, 32, 98, 46, 120, 32, 108, 105, 109, 105, 116, 32, 55]
def awakeQ : Qn := ⟨[⟨[97], [80], [⟨[107], ⟨2, 5, []⟩⟩]⟩, ⟨[98], [], []⟩], [⟨[101], [107, 110, 111, 119, 115], true⟩], [⟨[98], [120], 0, ⟨2, 3, []⟩⟩], [⟨[97], []⟩, ⟨[98], [120]⟩], 7⟩
theorem awake_parse : parseL awakeT = .inl awakeQ := by kernel_rfl
theorem awake_len : awakeT.length = 68 := by kernel_rfl
set_option maxHeartbeats 4000000 in
theorem awake_any (w : World) (hT : Tabs w) : Calls Tryd.prog 8 #[] w fun e w' => e = .returned (.bool true) ∧ Below w.heap.size w w' := by
  have kp := parse_any awakeT w hT (by rw [awake_len]; decide)
  rw [awake_parse] at kp
  unfold PRet QRet at kp
  have kp3 : Calls Tryd.prog 6 #[.string (str awakeT)] w fun e w' => ∃ (nad ead cad iad : Option Addr) (ncp ecp ccp icp : Nat) (rs : List Rs), e = .returned (.tuple #[.agg #[.slice nad 2 ncp, .slice ead 1 ecp, .slice cad 1 ccp, .slice iad 2 icp, .int .i64 7], .int .i64 0, .int .i64 0]) ∧ Hp w [] (.row 84 3 (.slice ead 1 ecp) 1 [.string (str [101]), .string (str [107, 110, 111, 119, 115]), .bool true] :: .row 94 2 (.slice iad 2 icp) 2 [.string (str [97]), .string (str []), .string (str [98]), .string ⟨#[120]⟩] :: rs) w' := by
    refine kp.mono ?_
    rintro e w1 ⟨v, rfl, N, nad, ead, cad, iad, ncp, ecp, ccp, icp, nrs, hNx, hNn, rfl, hp, -⟩
    have hN2 : N.length = 2 := by have := congrArg List.length hNx; rw [List.length_map] at this; exact this
    rw [hN2] at hp ⊢
    exact ⟨nad, ead, cad, iad, ncp, ecp, ccp, icp, nrs, rfl, (hp.drop 0).drop 1⟩
  have es : str awakeT = (⟨#[102, 105, 110, 100, 32, 40, 97, 58, 80, 32, 123, 107, 58, 32, 53, 125, 41, 32, 45, 91, 101, 58, 107, 110, 111, 119, 115, 93, 45, 62, 32, 40, 98, 41, 32, 119, 104, 101, 114, 101, 32, 98, 46, 120, 32, 60, 32, 51, 32, 116, 101, 108, 108, 32, 97, 44, 32, 98, 46, 120, 32, 108, 105, 109, 105, 116, 32, 55]⟩ : ByteArray) := rfl
  clear kp
  replace kp3 := Lib.hid kp3
  go_enter Tryd.func8, Tryd.ntmps8
  go_upto_region 2 with (go_at_call 6; (refine kp3.out.mono ?_); rintro e w1 ⟨nad, ead, cad, iad, ncp, ecp, ccp, icp, rs, rfl, hp⟩; replace hp := Lib.hid hp)
  replace hp := Lib.hid (hp.out.alloc #[.slice nad 2 ncp, .slice ead 1 ecp, .slice cad 1 ccp, .slice iad 2 icp, .int .i64 7] 27)
  generalize w1.alloc _ = W1 at hp ⊢
  generalize w1.heap.size = qx at hp ⊢
  have y0 := hp.out.cell (i := 0) rfl 0; have y1 := hp.out.cell (i := 0) rfl 1; have y3 := hp.out.cell (i := 0) rfl 3; have y4 := hp.out.cell (i := 0) rfl 4
  simp at y0 y1 y3 y4
  obtain ⟨b1, o1, rfl, r1⟩ := (slAt (hp.out.sl (i := 1) rfl (by decide))).resolve_left (by decide)
  obtain ⟨b2, o2, rfl, r2⟩ := (slAt (hp.out.sl (i := 2) rfl (by decide))).resolve_left (by decide)
  have d1 : W1.cell? ⟨b1, o1 + 2, none⟩ = some (.bool true) := r1.2 2 _ rfl
  have d2 : W1.cell? ⟨b2, o2 + 2 + 1, none⟩ = some (.string ⟨#[120]⟩) := r2.2 3 _ rfl
  have d2b : W1.cell? ⟨b2, o2 + 3, none⟩ = some (.string ⟨#[120]⟩) := r2.2 3 _ rfl
  go_wp2
  go_ret
  exact ⟨rfl, hp.out.bel⟩
end Go.Proofs.YtgbkpkioijbgoaaDoor.qry
