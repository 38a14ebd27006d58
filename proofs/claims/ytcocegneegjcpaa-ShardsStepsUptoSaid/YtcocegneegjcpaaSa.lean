/- THE WALKS of package shards: New, Len, All, serves, Add, Read, Sum, Take. -/
import Derived.Test.YtcocegneegjcpaaCf
import Derived.StillTailTactics
namespace Go.Proofs.Ytcocegneegjcpaa
open Go Go.RowKit

/-- a shards.Counter at block bc -/
structure Shard (w : World) (bc bk bw : Nat) (ws : List Int) : Prop where
  head : Row w bc 121 [.pointer (some ⟨bk, 0, none⟩)]
  words : Words w bk bw ws
  pos : 0 < ws.length
  top : ws.length ≤ 64

section
variable {w w' : World} {bc bk bw : Nat} {ws : List Int}
theorem Shard.hc (h : Shard w bc bk bw ws) : w.cell? ⟨bc, 0, none⟩ = some (.pointer (some ⟨bk, 0, none⟩)) := h.head.cell 0
theorem Shard.ne (h : Shard w bc bk bw ws) : bc ≠ bw := h.head.ne h.words.row (by decide)
theorem Shard.set (h : Shard w bc bk bw ws) (i : Nat) {x : Int} (hx : U64 x) : Shard (w.setCell ⟨bw, i, none⟩ (.int .u64 x)) bc bk bw (ws.set i x) :=
  ⟨h.head.far (p := ⟨bw, i, none⟩) h.ne.symm _, h.words.set i hx, by rw [List.length_set]; exact h.pos, by rw [List.length_set]; exact h.top⟩
theorem Shard.part {S : List Nat} (h : Shard w bc bk bw ws) (hp : Part S w w') (h1 : bc ∉ S) (h2 : bk ∉ S) (h3 : bw ∉ S) : Shard w' bc bk bw ws := ⟨h.head.part hp h1, h.words.part hp h2 h3, h.pos, h.top⟩
/-- behind what turns the words alone -/
theorem Shard.next {ws' : List Int} (h : Shard w bc bk bw ws) (hp : Part [bw] w w') (hw : Words w' bk bw ws') (hl : ws'.length = ws.length) : Shard w' bc bk bw ws' :=
  ⟨h.head.part hp (by simpa using h.ne), hw, by rw [hl]; exact h.pos, by rw [hl]; exact h.top⟩
theorem Shard.below {B : Nat} (h : Shard w bc bk bw ws) (hb : Below B w w') (h1 : bc < B) (h2 : bk < B) (h3 : bw < B) : Shard w' bc bk bw ws := ⟨h.head.below hb h1, h.words.below hb h2 h3, h.pos, h.top⟩
theorem Shard.on (h : Shard w bc bk bw ws) (hb : Below w.heap.size w w') : Shard w' bc bk bw ws := h.below hb h.head.lt h.words.head.lt h.words.row.lt
theorem Words.drew' (h : Words w bk bw ws) : Words w.drew bk bw ws := ⟨h.head, h.row, h.few, h.ok⟩
theorem Shard.drew (h : Shard w bc bk bw ws) : Shard w.drew bc bk bw ws := ⟨h.head, h.words.drew, h.pos, h.top⟩
theorem Shard.alloc (h : Shard w bc bk bw ws) (o : Obj) : Shard (w.alloc o) bc bk bw ws := ⟨h.head.alloc o, h.words.alloc o, h.pos, h.top⟩
end

/-- the sum, modulo 2^64 -/
def sumW (l : List Int) : Int := l.foldl (fun a x => IntKind.u64.wrap (a + x)) 0
theorem sumW_snoc (l : List Int) (x : Int) : sumW (l ++ [x]) = IntKind.u64.wrap (sumW l + x) := by simp [sumW]
theorem sumW_take (l : List Int) {k : Nat} {x : Int} (h : l[k]? = some x) : sumW (l.take (k + 1)) = IntKind.u64.wrap (sumW (l.take k) + x) := by rw [List.take_add_one, h]; exact sumW_snoc _ _

theorem clen_any {w : World} {bc bk bw : Nat} {ws : List Int} (h : Shard w bc bk bw ws) :
    Calls Try.prog 23 #[.pointer (some ⟨bc, 0, none⟩)] w fun e w' => e = .returned (.int .i64 (ws.length : Int)) ∧ w = w' := by
  have hc := h.hc
  go_enter Try.func23, Try.ntmps23
  go_wp2_with (go_at_call 60; refine (len_any h.words).mono ?_; rintro e w' ⟨rfl, rfl⟩)
  go_ret
  exact ⟨rfl, rfl⟩
theorem clen_nil (w : World) : Calls Try.prog 23 #[.pointer none] w fun e w' => e = .returned (.int .i64 0) ∧ w = w' := by
  go_enter Try.func23, Try.ntmps23
  go_wp2
  go_ret
  exact ⟨rfl, rfl⟩
theorem call_any {w : World} {bc bk bw : Nat} {ws : List Int} (h : Shard w bc bk bw ws) :
    Calls Try.prog 32 #[.pointer (some ⟨bc, 0, none⟩)] w (Copied w ws) := by
  have hc := h.hc
  go_enter Try.func32, Try.ntmps32
  go_wp2_with (go_at_call 67; refine (all_any h.words).mono ?_; rintro e w' ⟨b, rfl, hb, hr, hw⟩; have HB := Lib.hid hb; have HR := Lib.hid hr; have HW := Lib.hid hw; clear hb hr hw)
  go_ret
  exact ⟨b, rfl, HB.out, HR.out, HW.out⟩
theorem call_nil (w : World) : Calls Try.prog 32 #[.pointer none] w fun e w' => e = .returned (.slice none 0 0) ∧ w = w' := by
  go_enter Try.func32, Try.ntmps32
  go_wp2
  go_ret
  exact ⟨rfl, rfl⟩
theorem serves_nil {w : World} {k : Int} : Calls Try.prog 68 #[.pointer none, .int .i64 k] w fun e w' => e = .returned (.int .i64 1) ∧ w = w' := by
  go_enter Try.func68, Try.ntmps68
  go_wp2
  go_ret
  exact ⟨rfl, rfl⟩
theorem serves_low {w : World} {a : Addr} {k : Int} (h : k < 0) : Calls Try.prog 68 #[.pointer (some a), .int .i64 k] w fun e w' => e = .returned (.int .i64 2) ∧ w = w' := by
  go_enter Try.func68, Try.ntmps68
  go_wp2
  go_ret
  exact ⟨rfl, rfl⟩
theorem serves_yes {w : World} {a : Addr} {k : Int} (h : 0 ≤ k) : Calls Try.prog 68 #[.pointer (some a), .int .i64 k] w fun e w' => e = .returned (.int .i64 0) ∧ w = w' := by
  go_enter Try.func68, Try.ntmps68
  go_wp2
  go_ret
  exact ⟨rfl, rfl⟩

theorem cadd_nil {w : World} {k y : Int} : Calls Try.prog 33 #[.pointer none, .int .i64 k, .int .u64 y] w fun e w' => e = .returned (.tuple #[.int .u64 0, .int .i64 1]) ∧ w = w' := by
  go_enter Try.func33, Try.ntmps33
  go_wp2_with (go_at_call 68; refine serves_nil.mono ?_; rintro e w' ⟨rfl, rfl⟩)
  go_ret2
  exact ⟨rfl, rfl⟩
theorem cadd_low {w : World} {a : Addr} {k y : Int} (h : k < 0) : Calls Try.prog 33 #[.pointer (some a), .int .i64 k, .int .u64 y] w fun e w' => e = .returned (.tuple #[.int .u64 0, .int .i64 2]) ∧ w = w' := by
  go_enter Try.func33, Try.ntmps33
  go_wp2_with (go_at_call 68; refine (serves_low h).mono ?_; rintro e w' ⟨rfl, rfl⟩)
  go_ret2
  exact ⟨rfl, rfl⟩
theorem cread_nil {w : World} {k : Int} : Calls Try.prog 34 #[.pointer none, .int .i64 k] w fun e w' => e = .returned (.tuple #[.int .u64 0, .int .i64 1]) ∧ w = w' := by
  go_enter Try.func34, Try.ntmps34
  go_wp2_with (go_at_call 68; refine serves_nil.mono ?_; rintro e w' ⟨rfl, rfl⟩)
  go_ret2
  exact ⟨rfl, rfl⟩
theorem cread_low {w : World} {a : Addr} {k : Int} (h : k < 0) : Calls Try.prog 34 #[.pointer (some a), .int .i64 k] w fun e w' => e = .returned (.tuple #[.int .u64 0, .int .i64 2]) ∧ w = w' := by
  go_enter Try.func34, Try.ntmps34
  go_wp2_with (go_at_call 68; refine (serves_low h).mono ?_; rintro e w' ⟨rfl, rfl⟩)
  go_ret2
  exact ⟨rfl, rfl⟩

theorem tmod_nat (k n : Nat) : (k : Int).tmod (n : Int) = ((k % n : Nat) : Int) := by rw [Int.tmod_eq_emod_of_nonneg (by omega)]; rfl

/-- what an Add leaves -/
def Added (w : World) (bc bk bw : Nat) (ws : List Int) (v : Value) (e : Ending) (w' : World) : Prop := e = .returned v ∧ Shard w' bc bk bw ws ∧ Part [bw] w w'

set_option maxHeartbeats 800000 in
theorem cadd_any {w : World} {bc bk bw : Nat} {ws : List Int} (h : Shard w bc bk bw ws) {k : Nat} {x y : Int} (hx : ws[k % ws.length]? = some x) (hk : k ≤ 9223372036854775807) :
    Calls Try.prog 33 #[.pointer (some ⟨bc, 0, none⟩), .int .i64 (k : Int), .int .u64 y] w (Added w bc bk bw (ws.set (k % ws.length) (IntKind.u64.wrap (x + y))) (.tuple #[.int .u64 (IntKind.u64.wrap (x + y)), .int .i64 0])) := by
  have hc := h.hc
  have h0 : (0 : Int) ≤ (k : Int) := by omega
  have hp := h.pos
  have hn : ¬ ws = [] := by rintro rfl; simp at hp
  have hn' : ¬ (ws.length : Int) = 0 := by omega
  have hm := tmod_nat k ws.length
  have H := Lib.hid h
  clear h
  go_enter Try.func33, Try.ntmps33
  go_wp2_with (go_at_call 68; refine (serves_yes h0).mono ?_; rintro e w' ⟨rfl, rfl⟩)
  go_region_with (first
    | (go_at_call 23; refine (clen_any H.out.drew).mono ?_; rintro e w' ⟨rfl, rfl⟩)
    | (go_at_call 69; refine (add_any H.out.drew.words hx).mono ?_; rintro e w' ⟨rfl, rfl⟩))
  all_goals
    go_wp2_with fail
    go_ret2
    exact ⟨rfl, (H.out.set _ (u64_wrap _)).drew, (Part.set (p := ⟨bw, k % ws.length, none⟩) (Part.refl [bw] w) (by simp) _).drew⟩

set_option maxHeartbeats 800000 in
theorem cread_any {w : World} {bc bk bw : Nat} {ws : List Int} (h : Shard w bc bk bw ws) {k : Nat} {x : Int} (hx : ws[k % ws.length]? = some x) (hk : k ≤ 9223372036854775807) :
    Calls Try.prog 34 #[.pointer (some ⟨bc, 0, none⟩), .int .i64 (k : Int)] w fun e w' => e = .returned (.tuple #[.int .u64 x, .int .i64 0]) ∧ w.drew = w' := by
  have hc := h.hc
  have h0 : (0 : Int) ≤ (k : Int) := by omega
  have hp := h.pos
  have hn : ¬ ws = [] := by rintro rfl; simp at hp
  have hn' : ¬ (ws.length : Int) = 0 := by omega
  have hm := tmod_nat k ws.length
  have H := Lib.hid h
  clear h
  go_enter Try.func34, Try.ntmps34
  go_wp2_with (go_at_call 68; refine (serves_yes h0).mono ?_; rintro e w' ⟨rfl, rfl⟩)
  go_region_with (first
    | (go_at_call 23; refine (clen_any H.out.drew).mono ?_; rintro e w' ⟨rfl, rfl⟩)
    | (go_at_call 70; refine (load_any H.out.drew.words hx).mono ?_; rintro e w' ⟨rfl, rfl⟩))
  all_goals
    go_wp2_with fail
    go_ret2
    exact ⟨rfl, rfl⟩

theorem csum_nil (w : World) : Calls Try.prog 35 #[.pointer none] w fun e w' => e = .returned (.int .u64 0) ∧ w = w' := by
  go_enter Try.func35, Try.ntmps35
  go_wp2_with (go_at_call 23; refine (clen_nil _).mono ?_; rintro e w' ⟨rfl, rfl⟩)
  refine wp_loop_rounds 1 ?_
  rw [rounds_succ]
  go_wp2
  go_ret
  exact ⟨rfl, rfl⟩
theorem csum_any {w : World} {bc bk bw : Nat} {ws : List Int} (h : Shard w bc bk bw ws) :
    Calls Try.prog 35 #[.pointer (some ⟨bc, 0, none⟩)] w fun e w' => e = .returned (.int .u64 (sumW ws)) ∧ w = w' := by
  have hc := h.hc
  have ht := h.top
  have H := Lib.hid h
  clear h
  go_enter Try.func35, Try.ntmps35
  go_wp2_with (go_at_call 23; refine (clen_any H.out).mono ?_; rintro e w' ⟨rfl, rfl⟩)
  go_loop [3, 7] (fun s i => ∃ k : Nat, k ≤ ws.length ∧ i = .int .i64 k ∧ s = .int .u64 (sumW (ws.take k))) (fun _ i => ws.length - (intOf i).toNat)
  case atStart => exact ⟨0, Nat.zero_le _, rfl, rfl⟩
  case round =>
    obtain ⟨k, hk, rfl, rfl⟩ := hrel
    by_cases hlt : k < ws.length
    · obtain ⟨x, hx⟩ : ∃ x, ws[k]? = some x := ⟨ws[k], List.getElem?_eq_getElem hlt⟩
      have HX := Lib.hid hx
      clear hx
      go_wp2_with (go_at_call 70; refine (load_any H.out.words HX.out).mono ?_; rintro e w' ⟨rfl, rfl⟩)
      go_round
      case rel => exact ⟨k + 1, by omega, by go_num, by rw [sumW_take ws HX.out]⟩
      case measure => simp [intOf]; omega
    · obtain rfl : k = ws.length := by omega
      go_wp2
      go_ret
      exact ⟨by simp, rfl⟩
theorem ctake_nil (w : World) : Calls Try.prog 36 #[.pointer none] w fun e w' => e = .returned (.int .u64 0) ∧ w = w' := by
  go_enter Try.func36, Try.ntmps36
  go_wp2_with (go_at_call 23; refine (clen_nil _).mono ?_; rintro e w' ⟨rfl, rfl⟩)
  refine wp_loop_rounds 1 ?_
  rw [rounds_succ]
  go_wp2
  go_ret
  exact ⟨rfl, rfl⟩

/-- the first k of the words are noughts -/
def zeroed (ws : List Int) (k : Nat) : List Int := List.replicate k 0 ++ ws.drop k
theorem zeroed_zero (ws : List Int) : zeroed ws 0 = ws := by simp [zeroed]
theorem zeroed_all (ws : List Int) : zeroed ws ws.length = List.replicate ws.length 0 := by simp [zeroed]
theorem zeroed_length (ws : List Int) {k : Nat} (h : k ≤ ws.length) : (zeroed ws k).length = ws.length := by simp [zeroed]; omega
theorem zeroed_get (ws : List Int) {k : Nat} : (zeroed ws k)[k]? = ws[k]? := by simp [zeroed, List.getElem?_append_right]
theorem zeroed_set (ws : List Int) {k : Nat} (hk : k < ws.length) : (zeroed ws k).set k 0 = zeroed ws (k + 1) := by
  unfold zeroed
  rw [List.set_append_right _ _ (by simp), List.length_replicate, Nat.sub_self, List.drop_eq_getElem_cons hk, List.set_cons_zero, List.replicate_succ', List.append_assoc]
  rfl

def TakeAt (w : World) (bc bk bw : Nat) (ws : List Int) (k : Nat) (wr : World) : Prop := Shard wr bc bk bw (zeroed ws k) ∧ Part [bw] w wr
theorem ctake_any {w : World} {bc bk bw : Nat} {ws : List Int} (h : Shard w bc bk bw ws) :
    Calls Try.prog 36 #[.pointer (some ⟨bc, 0, none⟩)] w (Added w bc bk bw (List.replicate ws.length 0) (.int .u64 (sumW ws))) := by
  have ht := h.top
  have H := Lib.hid h
  clear h
  go_enter Try.func36, Try.ntmps36
  go_wp2_with (go_at_call 23; refine (clen_any H.out).mono ?_; rintro e w' ⟨rfl, rfl⟩)
  go_loopw [3, 7] (fun s i wr => ∃ k : Nat, k ≤ ws.length ∧ i = .int .i64 k ∧ s = .int .u64 (sumW (ws.take k)) ∧ TakeAt w bc bk bw ws k wr) (fun _ i _ => ws.length - (intOf i).toNat)
  case atStart => exact ⟨0, Nat.zero_le _, rfl, rfl, by rw [zeroed_zero]; exact H.out, Part.refl _ _⟩
  case round =>
    obtain ⟨k, hk, rfl, rfl, hT⟩ := hrel
    have hc := hT.1.hc
    have HT := Lib.hid hT
    clear hT
    by_cases hlt : k < ws.length
    · obtain ⟨x, hx⟩ : ∃ x, ws[k]? = some x := ⟨ws[k], List.getElem?_eq_getElem hlt⟩
      have HX := Lib.hid hx
      clear hx
      go_wp2_with (go_at_call 71; refine (swap_any (y := 0) HT.out.1.words ((zeroed_get ws).trans HX.out)).mono ?_; rintro e w' ⟨rfl, rfl⟩)
      go_roundw
      case rel => exact ⟨k + 1, by omega, by go_num, by rw [sumW_take ws HX.out], by rw [← zeroed_set ws hlt]; exact HT.out.1.set k U64.zero, HT.out.2.set (p := ⟨bw, k, none⟩) (by simp) _⟩
      case measure => simp [intOf]; omega
    · obtain rfl : k = ws.length := by omega
      go_wp2
      go_ret
      exact ⟨by simp [List.take_length], by rw [← zeroed_all]; exact HT.out.1, HT.out.2⟩

/-- what New leaves -/
def FreshC (w : World) (n : Nat) (v : Value) (e : Ending) (w' : World) : Prop :=
  ∃ bc bk bw, e = .returned (.tuple #[.pointer (some ⟨bc, 0, none⟩), v]) ∧ w.heap.size ≤ bc ∧ w.heap.size ≤ bk ∧ w.heap.size ≤ bw ∧ Shard w' bc bk bw (List.replicate n 0) ∧ Below w.heap.size w w'
theorem cnew_no {w : World} {n : Int} (h : n < 1 ∨ 64 < n) : Calls Try.prog 21 #[.int .i64 n] w fun e w' => e = .returned (.tuple #[.pointer none, .int .i64 2]) ∧ w = w' := by
  rcases h with h | h
  · go_enter Try.func21, Try.ntmps21
    go_wp2
    go_ret2
    exact ⟨rfl, rfl⟩
  · have h' : decide (n < 1) = false := by simp; omega
    have h'' : decide (64 < n) = true := by simp; omega
    go_enter Try.func21, Try.ntmps21
    go_wp2
    go_ret2
    exact ⟨rfl, rfl⟩
theorem cnew_yes (w : World) {n : Nat} (h1 : 1 ≤ n) (h2 : n ≤ 64) : Calls Try.prog 21 #[.int .i64 (n : Int)] w (FreshC w n (.int .i64 0)) := by
  have g1 : decide ((n : Int) < 1) = false := by simp; omega
  have g2 : decide ((64 : Int) < (n : Int)) = false := by simp; omega
  have H1 := Lib.hid h1
  have H2 := Lib.hid h2
  have H3 : Hid (n ≤ 65536) := Lib.hid (by omega)
  clear h1 h2
  go_enter Try.func21, Try.ntmps21
  go_wp2_with (go_at_call 53; refine (new_yes _ H3.out).mono ?_; rintro e w1 ⟨bk, bw, rfl, hk, hw, hW, hb⟩; have HK := Lib.hid hk; have HW := Lib.hid hw; have HS := Lib.hid hW; have HB := Lib.hid hb; clear hk hw hW hb)
  go_ret2
  have hs := HB.out.size
  exact ⟨w1.heap.size, bk, bw, rfl, hs, HK.out, HW.out, ⟨Row.new _ _ _, HS.out.alloc _, by rw [List.length_replicate]; exact H1.out, by rw [List.length_replicate]; exact H2.out⟩, HB.out.alloc hs _⟩
theorem begun_no {w : World} {n : Int} (h : n < 1 ∨ 64 < n) : Calls Try.prog 20 #[.int .i64 n] w fun e w' => e = .returned (.tuple #[.pointer none, .bool false]) ∧ w = w' := by
  go_enter Try.func20, Try.ntmps20
  go_wp2_with (go_at_call 21; refine (cnew_no h).mono ?_; rintro e w1 ⟨rfl, rfl⟩)
  go_ret2
  exact ⟨rfl, rfl⟩
theorem begun_yes (w : World) {n : Nat} (h1 : 1 ≤ n) (h2 : n ≤ 64) : Calls Try.prog 20 #[.int .i64 (n : Int)] w (FreshC w n (.bool true)) := by
  have H1 := Lib.hid h1
  have H2 := Lib.hid h2
  clear h1 h2
  go_enter Try.func20, Try.ntmps20
  go_wp2_with (go_at_call 21; refine (cnew_yes _ H1.out H2.out).mono ?_; rintro e w1 ⟨bc, bk, bw, rfl, hc, hk, hw, hS, hb⟩; have HC := Lib.hid hc; have HK := Lib.hid hk; have HW := Lib.hid hw; have HS := Lib.hid hS; have HB := Lib.hid hb; clear hc hk hw hS hb)
  go_ret2
  exact ⟨bc, bk, bw, rfl, HC.out, HK.out, HW.out, HS.out, HB.out⟩
end Go.Proofs.Ytcocegneegjcpaa
