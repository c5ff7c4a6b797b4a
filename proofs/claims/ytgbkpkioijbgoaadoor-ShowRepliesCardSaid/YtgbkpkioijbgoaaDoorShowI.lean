/- Words with something between each two (strings.Join), numbers in brackets (show.Ids). The table of powers of ten is a premise. -/
import Derived.Test.YtgbkpkioijbgoaaDoorShowN
namespace Go.Proofs.YtgbkpkioijbgoaaDoor.show
open Go.RowKit
attribute [local go_sem ↓] Go.wp_at_zero Go.wp_at_succ
set_option linter.unusedVariables false
set_option linter.unusedSimpArgs false
set_option maxRecDepth 100000

/-- words, sep between each two -/
def joinS (xs : List ByteArray) (sep : ByteArray) : ByteArray := ⟨(Lib.join (xs.map (·.data.toList)) sep.data.toList).toArray⟩
theorem join_nil (a : Option Addr) (c : Nat) (sep : ByteArray) (w : World) : Calls Tryd.prog 46 #[.slice a 0 c, .string sep] w fun e w' => e = .returned (.string ⟨#[]⟩) ∧ Below w.heap.size w w' := by
  go_enter Tryd.func46, Tryd.ntmps46
  go_wp2
  go_ret
  exact ⟨rfl, Below.refl _ _⟩
theorem joinS_any (xs : List ByteArray) (sep : ByteArray) (hlen : (joinS xs sep).size ≤ 100000) (hn : xs.length ≤ 1000) (w : World) (v : Value) (h : SRow w 0 v xs) : Calls Tryd.prog 46 #[v, .string sep] w fun e w' => e = .returned (.string (joinS xs sep)) ∧ Below w.heap.size w w' := by
  by_cases hne : xs = []
  · subst hne
    rcases h.2 with ⟨rfl, h0⟩ | ⟨g, cap, cur, rfl, hb, hg, h1, h2, h3, h4⟩
    · exact join_nil _ _ sep w
    · exact join_nil _ _ sep w
  · obtain ⟨b, cap, rfl, hb, hcap, hc⟩ := h.open hne
    have hl2 : (Lib.join (xs.map (·.data.toList)) sep.data.toList).length ≤ 140737488355328 := by
      have : (joinS xs sep).size = (Lib.join (xs.map (·.data.toList)) sep.data.toList).length := by simp [joinS, ByteArray.size]
      omega
    exact Go.Proofs.Tryd.strings_Join b 0 cap xs sep w hc hb (by omega) hcap hl2
/-- numbers in brackets -/
def idsT (l : List Int) : ByteArray := (⟨#[91]⟩ : ByteArray) ++ joinS (l.map numT) ⟨#[32]⟩ ++ ⟨#[93]⟩
theorem numT_lenU (x : Int) (h : 0 ≤ x ∧ x < 18446744073709551616) : (numT x).size ≤ 21 := by
  obtain ⟨u, rfl⟩ : ∃ u : Nat, x = (u : Int) := ⟨x.toNat, by omega⟩
  unfold numT
  rw [str_size, Lib.itoa_nonneg, Lib.decDigits_length]
  have := Lib.nDigits_le20 u (by omega)
  omega
theorem tail_size (sep : List UInt8) (m : Nat) : ∀ r : List (List UInt8), (∀ x ∈ r, x.length ≤ m) → (Lib.joinTail sep r).length ≤ r.length * (m + sep.length)
  | [], _ => by simp [Lib.joinTail]
  | x :: r, h => by
    have h1 := h x (by simp)
    have h2 := tail_size sep m r (fun y hy => h y (by simp [hy]))
    have e : Lib.joinTail sep (x :: r) = sep ++ x ++ Lib.joinTail sep r := by simp [Lib.joinTail]
    rw [e, List.length_append, List.length_append, List.length_cons, Nat.add_mul]
    omega
theorem joinS_size (xs : List ByteArray) (sep : ByteArray) (m : Nat) (h : ∀ x ∈ xs, x.size ≤ m) : (joinS xs sep).size ≤ xs.length * (m + sep.size) := by
  have e : (joinS xs sep).size = (Lib.join (xs.map (·.data.toList)) sep.data.toList).length := by simp [joinS, ByteArray.size]
  rw [e]
  cases xs with
  | nil => simp [Lib.join_nil]
  | cons x r =>
    have h1 : x.data.toList.length ≤ m := by have := h x (by simp); simpa using this
    have h2 := tail_size sep.data.toList m (r.map (·.data.toList)) (fun y hy => by
      obtain ⟨z, hz, rfl⟩ := List.mem_map.mp hy
      have := h z (by simp [hz]); simpa using this)
    have h3 : sep.data.toList.length = sep.size := by simp
    rw [List.map_cons, Lib.join_cons, List.length_append, List.length_cons, Nat.add_mul]
    rw [List.length_map, h3] at h2
    omega
/-- one more word -/
theorem joinS_snoc (xs : List ByteArray) (sep y : ByteArray) : joinS (xs ++ [y]) sep = if xs = [] then y else joinS xs sep ++ sep ++ y := by
  cases xs with
  | nil => simp [joinS, Lib.join_one]
  | cons x r =>
    rw [if_neg (by simp)]
    apply ByteArray.ext
    apply Array.toList_inj.mp
    simp [joinS, Lib.join_cons, Lib.joinTail, ByteArray.data_append]
theorem idsT_size (l : List Int) (hn : l.length ≤ 20) (hl : ∀ x ∈ l, 0 ≤ x ∧ x < 18446744073709551616) : (joinS (l.map numT) ⟨#[32]⟩).size ≤ 1000 := by
  have h := joinS_size (l.map numT) ⟨#[32]⟩ 21 (fun y hy => by
    obtain ⟨z, hz, rfl⟩ := List.mem_map.mp hy
    exact numT_lenU z (hl z hz))
  have e : (⟨#[32]⟩ : ByteArray).size = 1 := rfl
  rw [e, List.length_map] at h
  omega
set_option maxHeartbeats 4000000 in
theorem ids_any (v : Value) (l : List Int) (w : World) (hT : Tab w) (h : Sl w v l.length (l.map (Value.int .u64))) (hn : l.length ≤ 20) (hl : ∀ x ∈ l, 0 ≤ x ∧ x < 18446744073709551616) :
    Calls Tryd.prog 20 #[v] w fun e w' => e = .returned (.string (idsT l)) ∧ Below w.heap.size w w' := by
  have hj := idsT_size l hn hl
  have k1 : ∀ x, x ∈ l → ∀ W, Below w.heap.size w W → Calls Tryd.prog 43 #[.int .u64 x] W fun e w' => e = .returned (.string (numT x)) ∧ Below W.heap.size W w' := fun x hx W hb => by
    obtain ⟨u, rfl⟩ : ∃ u : Nat, x = (u : Int) := ⟨x.toNat, by have := (hl x hx).1; omega⟩
    exact id_any u (by have := (hl _ hx).2; omega) W (hT.keep hb)
  have k2 : ∀ (W : World) (v : Value), SRow W 0 v (l.map numT) → Calls Tryd.prog 46 #[v, .string ⟨#[32]⟩] W fun e w' => e = .returned (.string (joinS (l.map numT) ⟨#[32]⟩)) ∧ Below W.heap.size W w' :=
    fun W v hr => joinS_any _ _ (by omega) (by simp; omega) W v hr
  obtain ⟨R, hR⟩ : ∃ R, R = joinS (l.map numT) ⟨#[32]⟩ := ⟨_, rfl⟩
  have hI : idsT l = (⟨#[91]⟩ : ByteArray) ++ R ++ ⟨#[93]⟩ := by rw [hR]; rfl
  rw [← hR] at k2 hj
  rw [hI]
  obtain ⟨a, cp, rfl, hmax, h⟩ := h
  obtain ⟨n, hln⟩ : ∃ n, n = l.length := ⟨_, rfl⟩
  rw [← hln] at hn hmax h ⊢
  have hp0 := Lib.hid ((Hp.none_ w []).rowNil 9 1)
  replace h := Lib.hid h; replace hln := Lib.hid hln; replace k1 := Lib.hid k1; replace k2 := Lib.hid k2; replace hj := Lib.hid hj
  clear hT hl hR hI
  go_enter Tryd.func20, Tryd.ntmps20
  go_wp2
  go_loopw [3, 8] (fun s3 s8 wr => ∃ (i : Nat) (ad : Option Addr) (cp : Nat), s8 = .int .i64 (i : Int) ∧ i ≤ n ∧ s3 = .slice ad i cp ∧ Hp w [] [.row 9 1 (.slice ad i cp) i (((l.take i).map numT).map Value.string)] wr) (fun _ s8 _ => n - (intOf s8).toNat)
  case atStart => exact ⟨0, _, _, rfl, by omega, rfl, by simpa using hp0.out⟩
  case round =>
    clear hp0
    obtain ⟨i, ad, cp2, rfl, hi, rfl, hp⟩ := hrel
    by_cases hlt : i < n
    · obtain ⟨b, o, rfl, hr⟩ := h.out.resolve_left (by omega)
      obtain ⟨x, hx⟩ : ∃ x, l[i]? = some x := ⟨_, List.getElem?_eq_getElem (by have := hln.out; omega)⟩
      have hf : ((l.take (i + 1)).map numT).map Value.string = ((l.take i).map numT).map Value.string ++ [.string (numT x)] := by rw [List.take_add_one, hx]; simp
      have hcx := k1.out x (List.mem_of_getElem? hx)
      have d0 : wr.cell? ⟨b, o + i, none⟩ = some (.int .u64 x) := (hp.bel.cell hr.1).trans (hr.2 i _ (by simp [hx]))
      have e1 : (0 : Int) ≤ (i : Int) := by omega
      have e2 : (i : Int) < (n : Int) := by omega
      have hi9 : i < 100000000 := by omega
      obtain ⟨T, hT⟩ : ∃ T, T = numT x := ⟨_, rfl⟩
      rw [← hT] at hcx hf
      obtain ⟨M, hM⟩ : ∃ M, M = ((l.take i).map numT).map Value.string := ⟨_, rfl⟩
      rw [← hM] at hf hp
      have hp2 := Lib.hid hp
      replace hf := Lib.hid hf; replace hcx := Lib.hid hcx; replace hi9 := Lib.hid hi9
      clear hx hr hM hp hT
      go_wp2_with (first
        | (go_at_call 43; (with_reducible refine (hcx.out _ hp2.out.bel).mono ?_); rintro e w1 ⟨rfl, b1⟩; replace hp2 := Lib.hid (hp2.out.below b1); clear b1)
        | (at_builtin; go_loud (refine wpList_append_hp rfl _ _ rfl Tryd.underlying45 strInfo rfl (by decide) (by decide) (hp2.out.alloc_ (.cells #[.string T] 9)) 0 rfl rfl _ _ [.string T] rfl rfl (block_cells (heap_alloc_new _ _)) (by intro u hu; simp at hu; rcases hu with rfl; rfl) hi9.out ?_; intro v5 w5 hp5 hv5; replace hp5 := Lib.hid hp5; obtain ⟨b5, cp5, rfl⟩ := hv5)))
      go_roundw
      case rel => exact ⟨i + 1, _, _, by go_num, by omega, rfl, by rw [hf.out]; exact hp5.out⟩
      case measure => simp [intOf]; omega
    · obtain rfl : n = i := by omega
      rw [List.take_of_length_le (by rw [← hln.out]; exact Nat.le_refl _)] at hp
      have hrow := hp.row (i := 0) rfl
      have hrow2 : SRow wr 0 (.slice ad n cp2) (l.map numT) := by unfold SRow; simpa [← hln.out] using hrow
      have kk := Lib.hid (k2.out _ _ hrow2)
      replace hp := Lib.hid hp
      clear hrow hrow2
      have hj1 := hj.out
      go_wp2_with (go_at_call 46; (with_reducible refine (kk.out).mono ?_); rintro e w1 ⟨rfl, b1⟩; replace hp := Lib.hid (hp.out.below b1); clear b1)
      go_ret
      exact ⟨rfl, hp.out.bel⟩
end Go.Proofs.YtgbkpkioijbgoaaDoor.show
