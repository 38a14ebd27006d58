/- THE WALK of times.PrintSpan. -/
import Derived.Test.YthbphanlmhghdaaDoorWl
import Derived.Lib.LaidTab
namespace Go.Proofs.YthbphanlmhghdaaDoor
open Go.RowKit

/-- the units' table lies in block 0 -/
def UnitsIn (w : World) : Prop := ∀ k, k < 6 → w.cell? ⟨0, 2 * k, none⟩ = some (.string ⟨(TM.uname k).toArray⟩) ∧ w.cell? ⟨0, 2 * k + 1, none⟩ = some (.int .i64 (TM.usize k))
theorem units_cells {w : World} (h : UnitsIn w) :
    w.cell? ⟨0, 0, none⟩ = some (.string ⟨#[104]⟩) ∧ w.cell? ⟨0, 1, none⟩ = some (.int .i64 3600000000000) ∧
    w.cell? ⟨0, 2, none⟩ = some (.string ⟨#[109]⟩) ∧ w.cell? ⟨0, 3, none⟩ = some (.int .i64 60000000000) ∧
    w.cell? ⟨0, 4, none⟩ = some (.string ⟨#[115]⟩) ∧ w.cell? ⟨0, 5, none⟩ = some (.int .i64 1000000000) ∧
    w.cell? ⟨0, 6, none⟩ = some (.string ⟨#[109, 115]⟩) ∧ w.cell? ⟨0, 7, none⟩ = some (.int .i64 1000000) ∧
    w.cell? ⟨0, 8, none⟩ = some (.string ⟨#[117, 115]⟩) ∧ w.cell? ⟨0, 9, none⟩ = some (.int .i64 1000) ∧
    w.cell? ⟨0, 10, none⟩ = some (.string ⟨#[110, 115]⟩) ∧ w.cell? ⟨0, 11, none⟩ = some (.int .i64 1) :=
  ⟨(h 0 (by omega)).1, (h 0 (by omega)).2, (h 1 (by omega)).1, (h 1 (by omega)).2, (h 2 (by omega)).1, (h 2 (by omega)).2, (h 3 (by omega)).1, (h 3 (by omega)).2,
    (h 4 (by omega)).1, (h 4 (by omega)).2, (h 5 (by omega)).1, (h 5 (by omega)).2⟩

/-- what the walks ask of the memory: the units, the library's powers of ten, and that both are old -/
def Env (w : World) : Prop := 6 ≤ w.heap.size ∧ UnitsIn w ∧ Lib.TabIs Tryd.prog w "internal/strconv.uint64pow10" .u64 Lib.pow10Tab
theorem Tryd.global3 : Tryd.prog.globalNamed "internal/strconv.uint64pow10" = some 3 := by kernel_rfl
theorem Env.on {w w' : World} (h : Env w) (hb : Below w.heap.size w w') : Env w' := by
  obtain ⟨h1, h2, h3⟩ := h
  refine ⟨Nat.le_trans h1 hb.size, fun k hk => ?_, var?_below hb Tryd.global3 (by omega) h3⟩
  have a := h2 k hk
  have c : ∀ p : Addr, p.block < w.heap.size → w'.cell? p = w.cell? p := fun p hp => hb.cell hp
  exact ⟨(c _ (by show 0 < _; omega)).trans a.1, (c _ (by show 0 < _; omega)).trans a.2⟩

/-- a builder is kept where no old block has turned -/
theorem builder_below {B b : Nat} {bs : List Value} {w w' : World} (h : Lib.IsBuilderF 55 5 B b bs w) (hb : Below w.heap.size w w') : Lib.IsBuilderF 55 5 B b bs w' := by
  have lt : ∀ (k : Nat) (o : Obj), w.heap[k]? = some o → w'.heap[k]? = some o := by
    intro k o hk
    rw [hb.block k (Array.getElem?_eq_some_iff.1 hk).1, hk]
  have one : ∀ p : Value, Lib.BuilderAtF 55 5 B b p bs w → Lib.BuilderAtF 55 5 B b p bs w' := by
    rintro p ⟨hB, v, h1, h2, h3⟩
    refine ⟨hB, v, lt _ _ h1, ⟨h2.1, ?_⟩, h3⟩
    rcases h2.2 with h4 | ⟨g, cap, cur, fz, a, c, d, e⟩
    · exact .inl h4
    · exact .inr ⟨g, cap, cur, fz, a, c, lt _ _ d, e⟩
  rcases h with h | h
  · exact .inl (one _ h)
  · exact .inr (one _ h)
theorem builder_new (w : World) : Lib.IsBuilderF 55 5 w.heap.size w.heap.size (Lib.byteCells []) (w.alloc (.cells #[.pointer none, .slice none 0 0] 55)) := by
  refine .inl ⟨Nat.le_refl _, .slice none 0 0, ?_, ⟨by simp [Lib.byteCells], .inl ⟨rfl, by simp [Lib.byteCells]⟩⟩, by simp [Value.ownBlock]⟩
  show (w.heap.push _)[w.heap.size]? = _
  simp
theorem below_grow (w : World) (k : Nat) (os : Array Obj) : Below w.heap.size w (Sort.grow (w.drewN k) os) := by
  refine ⟨rfl, rfl, rfl, ?_, fun i hi => ?_⟩
  · show w.heap.size ≤ (w.heap ++ os).size
    simp
  · show (w.heap ++ os)[i]? = w.heap[i]?
    rw [Array.getElem?_append_left hi]
theorem format_any (n : Nat) (w : World) (hn : (n : Int) ≤ 9223372036854775807) (hE : Env w) :
    Calls Tryd.prog 39 #[.int .i64 n, .int .i64 10] w fun e w' => e = .returned (.string ⟨(Lib.decDigits n).toArray⟩) ∧ Below w.heap.size w w' := by
  refine (Tryd.strconv_FormatInt_10 n (by omega) hn w hE.2.2).mono ?_
  rintro e w' ⟨rfl, k, os, rfl⟩
  refine ⟨?_, below_grow w k os⟩
  rw [Lib.itoa, if_neg (by omega), Int.toNat_natCast]
theorem write_any (B b : Nat) (l m : List UInt8) (w : World) (h : Lib.IsBuilderF 55 5 B b (Lib.byteCells l) w) (hl : l.length + m.length ≤ 1000) (hBw : B ≤ w.heap.size) :
    Calls Tryd.prog 38 #[.pointer (some ⟨b, 0, none⟩), .string ⟨m.toArray⟩] w fun e w' => e = .returned (.tuple #[.int .i64 m.length, .nilIface]) ∧ (Lib.IsBuilderF 55 5 B b (Lib.byteCells (l ++ m)) w' ∧ Below B w w' ∧ Lib.OthersKept 5 (some b) w w') := by
  have hs : (⟨m.toArray⟩ : ByteArray).size = m.length := by show m.toArray.size = _; simp
  refine (Tryd.Builder_WriteString_k B b (Lib.byteCells l) ⟨m.toArray⟩ w h (by rw [Lib.byteCells_length, hs]; omega) hBw).mono ?_
  rintro e w' ⟨rfl, h1, h2, h3⟩
  rw [hs]
  refine ⟨rfl, .inr ?_, h2, h3⟩
  have hc : Lib.strCells ⟨m.toArray⟩ = Lib.byteCells m := rfl
  rw [hc] at h1
  have : Lib.byteCells (l ++ m) = Lib.byteCells l ++ Lib.byteCells m := by simp [Lib.byteCells]
  rw [this]
  exact h1

/-- the array of the units, as it is loaded whole -/
def unitsV : Value := .agg #[.string ⟨#[104]⟩, .int .i64 3600000000000, .string ⟨#[109]⟩, .int .i64 60000000000, .string ⟨#[115]⟩, .int .i64 1000000000, .string ⟨#[109, 115]⟩, .int .i64 1000000, .string ⟨#[117, 115]⟩, .int .i64 1000, .string ⟨#[110, 115]⟩, .int .i64 1]
theorem units_index0 (w : World) : (Instr.index 58 unitsV (.int .i64 0)).run Tryd.prog w = .ok (.agg #[.string ⟨#[104]⟩, .int .i64 3600000000000]) w := by kernel_rfl
theorem units_index1 (w : World) : (Instr.index 58 unitsV (.int .i64 1)).run Tryd.prog w = .ok (.agg #[.string ⟨#[109]⟩, .int .i64 60000000000]) w := by kernel_rfl
theorem units_index2 (w : World) : (Instr.index 58 unitsV (.int .i64 2)).run Tryd.prog w = .ok (.agg #[.string ⟨#[115]⟩, .int .i64 1000000000]) w := by kernel_rfl
theorem units_index3 (w : World) : (Instr.index 58 unitsV (.int .i64 3)).run Tryd.prog w = .ok (.agg #[.string ⟨#[109, 115]⟩, .int .i64 1000000]) w := by kernel_rfl
theorem units_index4 (w : World) : (Instr.index 58 unitsV (.int .i64 4)).run Tryd.prog w = .ok (.agg #[.string ⟨#[117, 115]⟩, .int .i64 1000]) w := by kernel_rfl
theorem units_index5 (w : World) : (Instr.index 58 unitsV (.int .i64 5)).run Tryd.prog w = .ok (.agg #[.string ⟨#[110, 115]⟩, .int .i64 1]) w := by kernel_rfl
theorem units_index (k : Nat) (hk : k < 6) (w : World) : (Instr.index 58 unitsV (.int .i64 k)).run Tryd.prog w = .ok (.agg #[.string ⟨(TM.uname k).toArray⟩, .int .i64 (TM.usize k)]) w := by
  have : k = 0 ∨ k = 1 ∨ k = 2 ∨ k = 3 ∨ k = 4 ∨ k = 5 := by omega
  rcases this with rfl | rfl | rfl | rfl | rfl | rfl
  · exact units_index0 w
  · exact units_index1 w
  · exact units_index2 w
  · exact units_index3 w
  · exact units_index4 w
  · exact units_index5 w
/-- a block of a call's own, of another kind than bytes, is kept by the builder's calls -/
def Box (w : World) (x : Nat) (u v : Value) : Prop := w.heap[x]? = some (.cells #[u, v] 57 (0, 0))
theorem box_new (w : World) (u v : Value) : Box (w.alloc (.cells #[u, v] 57)) w.heap.size u v := by
  show (w.heap.push _)[w.heap.size]? = _
  simp
theorem box_below {w w' : World} {x : Nat} {u v : Value} (h : Box w x u v) (hb : Below w.heap.size w w') : Box w' x u v := by
  unfold Box at h ⊢
  rw [hb.block x (Array.getElem?_eq_some_iff.1 h).1, h]
theorem box_kept {w w' : World} {x b : Nat} {u v : Value} (h : Box w x u v) (hk : Lib.OthersKept 5 (some b) w w') (hx : x ≠ b) : Box w' x u v := by
  refine hk x _ h (fun e => hx (Option.some.inj e)) ?_
  intro c fz e
  injection e with _ e2
  exact absurd e2 (by decide)
theorem box_cells {w : World} {x : Nat} {u v : Value} (h : Box w x u v) : w.cell? ⟨x, 0, none⟩ = some u ∧ w.cell? ⟨x, 1, none⟩ = some v := by
  unfold Box at h
  simp [World.cell?, h]

set_option maxRecDepth 100000 in
set_option maxHeartbeats 1000000 in
theorem print_ok (d : Nat) (w : World) (hE : Env w) (h1 : 1 ≤ d) (h : (d : Int) ≤ 2305843009213693952) :
    Calls Tryd.prog 12 #[.int .i64 d] w fun e w' => e = .returned (.tuple #[.string ⟨(TM.spanText d).toArray⟩, .int .i64 0]) ∧ Below w.heap.size w w' := by
  have hT : TM.spanText d = TM.partsFrom d 6 0 := by unfold TM.spanText; rw [if_neg (by omega)]
  rw [hT]
  clear hT
  have hm := moment_yes (d := d) (by omega) h
  have h0 : ((d : Int) == 0) = false := by simp; omega
  obtain ⟨c0, c1, c2, c3, c4, c5, c6, c7, c8, c9, c10, c11⟩ := units_cells hE.2.1
  have hsz : 0 < w.heap.size := by have := hE.1; omega
  go_enter Tryd.func12, Tryd.ntmps12
  go_wp2_with (go_at_call 37; refine (isMoment_any _ _).mono ?_; rw [hm]; rintro e w1 ⟨rfl, rfl⟩)
  clear c0 c1 c2 c3 c4 c5 c6 c7 c8 c9 c10 c11
  go_loopw [0, 14] (fun a c wr => ∃ (k e : Nat) (acc : List UInt8), k ≤ 6 ∧ e ≤ d ∧ acc.length ≤ 22 * k ∧ a = .int .i64 e ∧ c = .int .i64 k ∧ acc ++ TM.partsFrom e (6 - k) k = TM.partsFrom d 6 0 ∧ Below w.heap.size w wr ∧ w.heap.size + 1 ≤ wr.heap.size ∧ Lib.IsBuilderF 55 5 w.heap.size w.heap.size (Lib.byteCells acc) wr) (fun _ c _ => 6 - (intOf c).toNat)
  case atStart => exact ⟨0, d, [], by omega, by omega, by simp, rfl, rfl, parts_start d, (Below.refl _ _).alloc (Nat.le_refl _) _, by simp, builder_new w⟩
  case round =>
    obtain ⟨k, e, acc, hk, he, hl, rfl, rfl, hp, hB, hsz', hbd⟩ := hrel
    have HP := Lib.hid hp
    clear hp
    by_cases hk6 : k = 6
    · subst hk6
      go_wp2_with (go_at_call 40; refine (Tryd.Builder_String_any_k w.heap.size w.heap.size acc _ hbd hB.size).mono ?_; rintro e w1 ⟨rfl, _, hb1, _⟩)
      go_ret2
      refine ⟨ret_si ?_, hB.trans hb1⟩
      rw [← HP.out, parts_end]
    · obtain ⟨z, hz, hz1, hz2⟩ := usz k
      have HZ := Lib.hid hz
      have hn : 6 - k = (6 - (k + 1)) + 1 := by omega
      have HN := Lib.hid hn
      clear hn
      have hul := uname_short k
      have hidx := units_index k (by omega)
      unfold unitsV at hidx
      rw [hz] at hidx
      by_cases hle : z ≤ e
      · have hq : (e : Int) / z ≤ e := Int.ediv_le_self _ (by omega)
        have hq0 : 0 ≤ (e : Int) / z := Int.ediv_nonneg (by omega) (by omega)
        have hq1 : 1 ≤ (e : Int) / z := (Int.le_ediv_iff_mul_le (by omega)).mpr (by omega)
        have hdl := dec_short (e / z) (by rw [Int.natCast_ediv]; omega)
        have hfm : ∀ W : World, Env W → Calls Tryd.prog 39 #[.int .i64 ((e : Int) / z), .int .i64 10] W fun x w' => x = .returned (.string ⟨(Lib.decDigits (e / z)).toArray⟩) ∧ Below W.heap.size W w' := by
          intro W hW
          rw [← Int.natCast_ediv]
          exact format_any (e / z) W (by rw [Int.natCast_ediv]; omega) hW
        have HF := Lib.hid hfm
        clear hz hfm
        go_wp2_with fail
        refine (HF.out _ (hE.on (hB.alloc hB.size _))).mono ?_
        rintro x w1 ⟨rfl, hb1⟩
        have bx1 := Lib.hid (box_below (box_new wr _ _) hb1)
        have bd1 := Lib.hid (builder_below (hbd.alloc _) hb1)
        have B1 := Lib.hid ((hB.alloc hB.size _).trans (hb1.mono (Nat.le_trans hB.size (by simp))))
        have hz1' : wr.heap.size + 1 ≤ w1.heap.size := by have := hb1.size; simpa using this
        clear hb1
        go_wp2_with fail
        refine (write_any w.heap.size w.heap.size acc (Lib.decDigits (e / z)) _ bd1.out (by omega) (by omega)).mono ?_
        rintro x w2 ⟨rfl, hbd2, hb2, hk2⟩
        have bx2 := Lib.hid (box_kept bx1.out hk2 (by omega))
        have B2 := Lib.hid (B1.out.trans hb2)
        have bd2 := Lib.hid hbd2
        have hz2' : wr.heap.size + 1 ≤ w2.heap.size := Nat.le_trans hz1' hb2.size
        clear hbd2 hb2 hk2
        obtain ⟨x0, x1⟩ := box_cells bx2.out
        go_wp2_with fail
        refine (write_any w.heap.size w.heap.size (acc ++ Lib.decDigits (e / z)) (TM.uname k) _ bd2.out (by rw [List.length_append]; omega) (by omega)).mono ?_
        rintro x w3 ⟨rfl, hbd3, hb3, hk3⟩
        have bx3 := Lib.hid (box_kept bx2.out hk3 (by omega))
        have B3 := B2.out.trans hb3
        have hz3' : wr.heap.size + 1 ≤ w3.heap.size := Nat.le_trans hz2' hb3.size
        clear hb3 hk3 x0 x1
        obtain ⟨x0, x1⟩ := box_cells bx3.out
        go_wp2
        go_roundw
        case rel =>
          refine ⟨k + 1, e % z, (acc ++ Lib.decDigits (e / z)) ++ TM.uname k, by omega, Nat.le_trans (Nat.mod_le _ _) he, ?_, by go_num, by go_num, ?_, B3, by omega, hbd3⟩
          · rw [List.length_append, List.length_append]; omega
          · rw [← HP.out, HN.out, parts_yes HZ.out hle acc, List.append_assoc acc]
        case measure => simp only [intOf]; omega
      · have hq1 : (e : Int) / z = 0 := Int.ediv_eq_zero_of_lt (by omega) (by omega)
        have hq2 : (e : Int) % z = e := Int.emod_eq_of_lt (by omega) (by omega)
        clear hz
        go_wp2
        go_roundw
        case rel => exact ⟨k + 1, e, acc, by omega, he, by omega, by rw [hq2], by go_num, by rw [← HP.out, HN.out, parts_no HZ.out hle], hB.alloc hB.size _, by simp; omega, hbd.alloc _⟩
        case measure => simp only [intOf]; omega

theorem print_any (d : Int) (w : World) (hE : Env w) : Calls Tryd.prog 12 #[.int .i64 d] w fun e w' => e = .returned (.tuple #[.string ⟨(spanOut d).1.toArray⟩, .int .i64 (spanOut d).2]) ∧ Below w.heap.size w w' := by
  by_cases h : d < 0 ∨ 2305843009213693952 < d
  · rw [spanOut_bad h]
    have hm := moment_no h
    clear h
    go_enter Tryd.func12, Tryd.ntmps12
    go_wp2_with (go_at_call 37; refine (isMoment_any _ _).mono ?_; rw [hm]; rintro e w1 ⟨rfl, rfl⟩)
    go_ret2
    exact ⟨rfl, Below.refl _ _⟩
  · obtain ⟨n, rfl⟩ := Int.eq_ofNat_of_zero_le (by omega : 0 ≤ d)
    have h1 : (n : Int) ≤ 2305843009213693952 := by omega
    rw [spanOut_ok h1]
    by_cases h0 : n = 0
    · subst h0
      have hm := moment_yes (d := 0) (by omega) (by omega)
      rw [show ((0 : Nat) : Int) = 0 from rfl]
      clear h h1
      go_enter Tryd.func12, Tryd.ntmps12
      go_wp2_with (go_at_call 37; refine (isMoment_any _ _).mono ?_; rw [hm]; rintro e w1 ⟨rfl, rfl⟩)
      go_ret2
      exact ⟨rfl, Below.refl _ _⟩
    · exact print_ok n w hE (by omega) h1
end Go.Proofs.YthbphanlmhghdaaDoor
