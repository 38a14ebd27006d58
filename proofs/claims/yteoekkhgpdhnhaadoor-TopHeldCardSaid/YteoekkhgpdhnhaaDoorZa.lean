/- HOW THE LAWS THROUGH THE LAYERS BEGIN: a span printed, a cell added to. -/
import Derived.Test.YteoekkhgpdhnhaaDoorZs
import Derived.Test.YteoekkhgpdhnhaaDoorCb
namespace Go.Proofs.YteoekkhgpdhnhaaDoor
open Go Go.RowKit
set_option maxRecDepth 100000
/-- the units' table lies in block 0 -/
def UnitsIn (w : World) : Prop := 1 ≤ w.heap.size ∧ w.cell? ⟨0, 0, none⟩ = some (.string ⟨#[104]⟩) ∧ w.cell? ⟨0, 1, none⟩ = some (.int .i64 3600000000000) ∧ w.cell? ⟨0, 2, none⟩ = some (.string ⟨#[109]⟩) ∧ w.cell? ⟨0, 3, none⟩ = some (.int .i64 60000000000) ∧ w.cell? ⟨0, 4, none⟩ = some (.string ⟨#[115]⟩) ∧ w.cell? ⟨0, 5, none⟩ = some (.int .i64 1000000000) ∧ w.cell? ⟨0, 6, none⟩ = some (.string ⟨#[109, 115]⟩) ∧ w.cell? ⟨0, 7, none⟩ = some (.int .i64 1000000) ∧ w.cell? ⟨0, 8, none⟩ = some (.string ⟨#[117, 115]⟩) ∧ w.cell? ⟨0, 9, none⟩ = some (.int .i64 1000) ∧ w.cell? ⟨0, 10, none⟩ = some (.string ⟨#[110, 115]⟩) ∧ w.cell? ⟨0, 11, none⟩ = some (.int .i64 1)
theorem UnitsIn.on {w w' : World} (h : UnitsIn w) (hb : Below w.heap.size w w') : UnitsIn w' := by
  obtain ⟨h0, h1, h2, h3, h4, h5, h6, h7, h8, h9, h10, h11, h12⟩ := h
  have c : ∀ p : Addr, p.block < w.heap.size → w'.cell? p = w.cell? p := fun p hp => hb.cell hp
  exact ⟨Nat.le_trans h0 hb.size, (c ⟨0, 0, none⟩ h0).trans h1, (c ⟨0, 1, none⟩ h0).trans h2, (c ⟨0, 2, none⟩ h0).trans h3, (c ⟨0, 3, none⟩ h0).trans h4, (c ⟨0, 4, none⟩ h0).trans h5, (c ⟨0, 5, none⟩ h0).trans h6, (c ⟨0, 6, none⟩ h0).trans h7, (c ⟨0, 7, none⟩ h0).trans h8, (c ⟨0, 8, none⟩ h0).trans h9, (c ⟨0, 9, none⟩ h0).trans h10, (c ⟨0, 10, none⟩ h0).trans h11, (c ⟨0, 11, none⟩ h0).trans h12⟩
def unitsV : Value := .agg #[.string ⟨#[104]⟩, .int .i64 3600000000000, .string ⟨#[109]⟩, .int .i64 60000000000, .string ⟨#[115]⟩, .int .i64 1000000000, .string ⟨#[109, 115]⟩, .int .i64 1000000, .string ⟨#[117, 115]⟩, .int .i64 1000, .string ⟨#[110, 115]⟩, .int .i64 1]
theorem units_index0 (w : World) : (Instr.index 134 unitsV (.int .i64 0)).run Tryd.prog w = .ok (.agg #[.string ⟨#[104]⟩, .int .i64 3600000000000]) w := by kernel_rfl
theorem units_index1 (w : World) : (Instr.index 134 unitsV (.int .i64 1)).run Tryd.prog w = .ok (.agg #[.string ⟨#[109]⟩, .int .i64 60000000000]) w := by kernel_rfl
theorem units_index2 (w : World) : (Instr.index 134 unitsV (.int .i64 2)).run Tryd.prog w = .ok (.agg #[.string ⟨#[115]⟩, .int .i64 1000000000]) w := by kernel_rfl
theorem units_index3 (w : World) : (Instr.index 134 unitsV (.int .i64 3)).run Tryd.prog w = .ok (.agg #[.string ⟨#[109, 115]⟩, .int .i64 1000000]) w := by kernel_rfl
theorem units_index4 (w : World) : (Instr.index 134 unitsV (.int .i64 4)).run Tryd.prog w = .ok (.agg #[.string ⟨#[117, 115]⟩, .int .i64 1000]) w := by kernel_rfl
theorem units_index5 (w : World) : (Instr.index 134 unitsV (.int .i64 5)).run Tryd.prog w = .ok (.agg #[.string ⟨#[110, 115]⟩, .int .i64 1]) w := by kernel_rfl
/-- a builder is kept where no old block has turned -/
theorem builder_below {B b : Nat} {bs : List Value} {w w' : World} (h : Lib.IsBuilderF 131 5 B b bs w) (hb : Below w.heap.size w w') : Lib.IsBuilderF 131 5 B b bs w' := by
  have lt : ∀ (k : Nat) (o : Obj), w.heap[k]? = some o → w'.heap[k]? = some o := by
    intro k o hk
    rw [hb.block k (Array.getElem?_eq_some_iff.1 hk).1, hk]
  have one : ∀ p : Value, Lib.BuilderAtF 131 5 B b p bs w → Lib.BuilderAtF 131 5 B b p bs w' := by
    rintro p ⟨hB, v, h1, h2, h3⟩
    refine ⟨hB, v, lt _ _ h1, ⟨h2.1, ?_⟩, h3⟩
    rcases h2.2 with h4 | ⟨g, cap, cur, fz, a, c, d, e⟩
    · exact .inl h4
    · exact .inr ⟨g, cap, cur, fz, a, c, lt _ _ d, e⟩
  rcases h with h | h
  · exact .inl (one _ h)
  · exact .inr (one _ h)
theorem builder_new (w : World) : Lib.IsBuilderF 131 5 w.heap.size w.heap.size (Lib.byteCells []) (w.alloc (.cells #[.pointer none, .slice none 0 0] 131)) := by
  refine .inl ⟨Nat.le_refl _, .slice none 0 0, ?_, ⟨by simp [Lib.byteCells], .inl ⟨rfl, by simp [Lib.byteCells]⟩⟩, by simp [Value.ownBlock]⟩
  show (w.heap.push _)[w.heap.size]? = _
  simp
theorem format_small (i : Nat) {bs : List UInt8} (hi : i < 100) (hd : Lib.decDigits i = bs) (W : World) : Calls Tryd.prog 55 #[.int .i64 (i : Int), .int .i64 10] W fun x w' => x = .returned (.string ⟨bs.toArray⟩) ∧ Below W.heap.size W w' := by
  subst hd
  exact (Tryd.strconv_FormatInt_10_small i hi W).mono fun e w' h => ⟨h.1, by rw [h.2]; exact Below.refl _ _⟩
theorem write_any (B b : Nat) (l m : List UInt8) (w : World) (h : Lib.IsBuilderF 131 5 B b (Lib.byteCells l) w) (hl : l.length + m.length ≤ 1000) (hBw : B ≤ w.heap.size) :
    Calls Tryd.prog 54 #[.pointer (some ⟨b, 0, none⟩), .string ⟨m.toArray⟩] w fun e w' => e = .returned (.tuple #[.int .i64 m.length, .nilIface]) ∧ (Lib.IsBuilderF 131 5 B b (Lib.byteCells (l ++ m)) w' ∧ Below B w w' ∧ Lib.OthersKept 5 (some b) w w') := by
  have hs : (⟨m.toArray⟩ : ByteArray).size = m.length := by show m.toArray.size = _; simp
  refine (Tryd.Builder_WriteString_k B b (Lib.byteCells l) ⟨m.toArray⟩ w h (by rw [Lib.byteCells_length, hs]; omega) hBw).mono ?_
  rintro e w' ⟨rfl, h1, h2, h3⟩
  rw [hs]
  refine ⟨rfl, .inr ?_, h2, h3⟩
  have hc : Lib.strCells ⟨m.toArray⟩ = Lib.byteCells m := rfl
  rw [hc] at h1
  have : Lib.byteCells (l ++ m) = Lib.byteCells l ++ Lib.byteCells m := by simp [Lib.byteCells]
  rw [this]
  exact h1
def BoxU (w : World) (x : Nat) (u v : Value) : Prop := w.heap[x]? = some (.cells #[u, v] 133 (0, 0))
theorem boxU_new (w : World) (u v : Value) : BoxU (w.alloc (.cells #[u, v] 133)) w.heap.size u v := by
  show (w.heap.push _)[w.heap.size]? = _
  simp
theorem boxU_below {w w' : World} {x : Nat} {u v : Value} (h : BoxU w x u v) (hb : Below w.heap.size w w') : BoxU w' x u v := by
  unfold BoxU at h ⊢
  rw [hb.block x (Array.getElem?_eq_some_iff.1 h).1, h]
theorem boxU_kept {w w' : World} {x b : Nat} {u v : Value} (h : BoxU w x u v) (hk : Lib.OthersKept 5 (some b) w w') (hx : x ≠ b) : BoxU w' x u v := by
  refine hk x _ h (fun e => hx (Option.some.inj e)) ?_
  intro c fz e
  injection e with _ e2
  exact absurd e2 (by decide)
theorem boxU_cells {w : World} {x : Nat} {u v : Value} (h : BoxU w x u v) : w.cell? ⟨x, 0, none⟩ = some u ∧ w.cell? ⟨x, 1, none⟩ = some v := by
  unfold BoxU at h
  simp [World.cell?, h]
theorem moment_top (w : World) : Calls Tryd.prog 53 #[.int .i64 5400000000001] w fun e w' => e = .returned (.bool true) ∧ w = w' := by
  go_enter Tryd.func53, Tryd.ntmps53
  go_wp2
  go_ret
  exact ⟨rfl, rfl⟩
set_option maxHeartbeats 1600000 in
theorem print_top (w : World) (hE : UnitsIn w) :
    Calls Tryd.prog 30 #[.int .i64 5400000000001] w fun e w' => e = .returned (.tuple #[.string ⟨#[49, 104, 51, 48, 109, 49, 110, 115]⟩, .int .i64 0]) ∧ Below w.heap.size w w' := by
  obtain ⟨hsz, c0, c1, c2, c3, c4, c5, c6, c7, c8, c9, c10, c11⟩ := hE
  have hsz0 : 0 < w.heap.size := hsz
  go_enter Tryd.func30, Tryd.ntmps30
  go_wp2_with (go_at_call 53; refine (moment_top _).mono ?_; rintro e w1 ⟨rfl, rfl⟩)
  clear c0 c1 c2 c3 c4 c5 c6 c7 c8 c9 c10 c11
  go_loopw [0, 14] (fun a c wr => ∃ (k : Nat) (e : Int) (acc : List UInt8), ((k = 0 ∧ e = 5400000000001 ∧ acc = []) ∨ (k = 1 ∧ e = 1800000000001 ∧ acc = [49, 104]) ∨ (k = 2 ∧ e = 1 ∧ acc = [49, 104, 51, 48, 109]) ∨ (k = 3 ∧ e = 1 ∧ acc = [49, 104, 51, 48, 109]) ∨ (k = 4 ∧ e = 1 ∧ acc = [49, 104, 51, 48, 109]) ∨ (k = 5 ∧ e = 1 ∧ acc = [49, 104, 51, 48, 109]) ∨ (k = 6 ∧ e = 0 ∧ acc = [49, 104, 51, 48, 109, 49, 110, 115])) ∧ a = .int .i64 e ∧ c = .int .i64 k ∧ Below w.heap.size w wr ∧ w.heap.size + 1 ≤ wr.heap.size ∧ Lib.IsBuilderF 131 5 w.heap.size w.heap.size (Lib.byteCells acc) wr) (fun _ c _ => 6 - (intOf c).toNat)
  case atStart => exact ⟨0, 5400000000001, [], .inl ⟨rfl, rfl, rfl⟩, rfl, rfl, (Below.refl _ _).alloc (Nat.le_refl _) _, by simp, builder_new w⟩
  case round =>
    obtain ⟨k, e, acc, hk, rfl, rfl, hB, hsz', hbd⟩ := hrel
    rcases hk with ⟨rfl, rfl, rfl⟩ | ⟨rfl, rfl, rfl⟩ | ⟨rfl, rfl, rfl⟩ | ⟨rfl, rfl, rfl⟩ | ⟨rfl, rfl, rfl⟩ | ⟨rfl, rfl, rfl⟩ | ⟨rfl, rfl, rfl⟩
    · have hidx := units_index0
      unfold unitsV at hidx
      have hq : Hid (∀ W : World, Calls Tryd.prog 55 #[.int .i64 1, .int .i64 10] W fun x w' => x = .returned (.string ⟨#[49]⟩) ∧ Below W.heap.size W w') := Lib.hid (fun W => format_small 1 (by omega) (by decide +kernel) W)
      go_wp2_with fail
      refine (hq.out _).mono ?_
      rintro x w1 ⟨rfl, hb1⟩
      have bx1 := Lib.hid (boxU_below (boxU_new wr _ _) hb1)
      have bd1 := Lib.hid (builder_below (hbd.alloc _) hb1)
      have B1 := Lib.hid ((hB.alloc hB.size _).trans (hb1.mono (Nat.le_trans hB.size (by simp))))
      have hz1' : wr.heap.size + 1 ≤ w1.heap.size := by have := hb1.size; simpa using this
      clear hb1
      go_wp2_with fail
      refine (write_any w.heap.size w.heap.size [] [49] _ bd1.out (by decide) (by omega)).mono ?_
      rintro x w2 ⟨rfl, hbd2, hb2, hk2⟩
      have bx2 := Lib.hid (boxU_kept bx1.out hk2 (by omega))
      have B2 := Lib.hid (B1.out.trans hb2)
      have bd2 := Lib.hid hbd2
      have hz2' : wr.heap.size + 1 ≤ w2.heap.size := Nat.le_trans hz1' hb2.size
      clear hbd2 hb2 hk2
      obtain ⟨x0, x1⟩ := boxU_cells bx2.out
      go_wp2_with fail
      refine (write_any w.heap.size w.heap.size [49] [104] _ bd2.out (by decide) (by omega)).mono ?_
      rintro x w3 ⟨rfl, hbd3, hb3, hk3⟩
      have bx3 := Lib.hid (boxU_kept bx2.out hk3 (by omega))
      have B3 := B2.out.trans hb3
      have hz3' : wr.heap.size + 1 ≤ w3.heap.size := Nat.le_trans hz2' hb3.size
      clear hb3 hk3 x0 x1
      obtain ⟨x0, x1⟩ := boxU_cells bx3.out
      go_wp2
      go_roundw
      case rel => exact ⟨1, 1800000000001, [49, 104], .inr (.inl ⟨rfl, rfl, rfl⟩), rfl, rfl, B3, by omega, hbd3⟩
      case measure => simp [intOf]
    · have hidx := units_index1
      unfold unitsV at hidx
      have hq : Hid (∀ W : World, Calls Tryd.prog 55 #[.int .i64 30, .int .i64 10] W fun x w' => x = .returned (.string ⟨#[51, 48]⟩) ∧ Below W.heap.size W w') := Lib.hid (fun W => format_small 30 (by omega) (by decide +kernel) W)
      go_wp2_with fail
      refine (hq.out _).mono ?_
      rintro x w1 ⟨rfl, hb1⟩
      have bx1 := Lib.hid (boxU_below (boxU_new wr _ _) hb1)
      have bd1 := Lib.hid (builder_below (hbd.alloc _) hb1)
      have B1 := Lib.hid ((hB.alloc hB.size _).trans (hb1.mono (Nat.le_trans hB.size (by simp))))
      have hz1' : wr.heap.size + 1 ≤ w1.heap.size := by have := hb1.size; simpa using this
      clear hb1
      go_wp2_with fail
      refine (write_any w.heap.size w.heap.size [49, 104] [51, 48] _ bd1.out (by decide) (by omega)).mono ?_
      rintro x w2 ⟨rfl, hbd2, hb2, hk2⟩
      have bx2 := Lib.hid (boxU_kept bx1.out hk2 (by omega))
      have B2 := Lib.hid (B1.out.trans hb2)
      have bd2 := Lib.hid hbd2
      have hz2' : wr.heap.size + 1 ≤ w2.heap.size := Nat.le_trans hz1' hb2.size
      clear hbd2 hb2 hk2
      obtain ⟨x0, x1⟩ := boxU_cells bx2.out
      go_wp2_with fail
      refine (write_any w.heap.size w.heap.size [49, 104, 51, 48] [109] _ bd2.out (by decide) (by omega)).mono ?_
      rintro x w3 ⟨rfl, hbd3, hb3, hk3⟩
      have bx3 := Lib.hid (boxU_kept bx2.out hk3 (by omega))
      have B3 := B2.out.trans hb3
      have hz3' : wr.heap.size + 1 ≤ w3.heap.size := Nat.le_trans hz2' hb3.size
      clear hb3 hk3 x0 x1
      obtain ⟨x0, x1⟩ := boxU_cells bx3.out
      go_wp2
      go_roundw
      case rel => exact ⟨2, 1, [49, 104, 51, 48, 109], .inr (.inr (.inl ⟨rfl, rfl, rfl⟩)), rfl, rfl, B3, by omega, hbd3⟩
      case measure => simp [intOf]
    · have hidx := units_index2
      unfold unitsV at hidx
      go_wp2
      go_roundw
      case rel => exact ⟨3, 1, [49, 104, 51, 48, 109], .inr (.inr (.inr (.inl ⟨rfl, rfl, rfl⟩))), rfl, rfl, hB.alloc hB.size _, by simp; omega, hbd.alloc _⟩
      case measure => simp [intOf]
    · have hidx := units_index3
      unfold unitsV at hidx
      go_wp2
      go_roundw
      case rel => exact ⟨4, 1, [49, 104, 51, 48, 109], .inr (.inr (.inr (.inr (.inl ⟨rfl, rfl, rfl⟩)))), rfl, rfl, hB.alloc hB.size _, by simp; omega, hbd.alloc _⟩
      case measure => simp [intOf]
    · have hidx := units_index4
      unfold unitsV at hidx
      go_wp2
      go_roundw
      case rel => exact ⟨5, 1, [49, 104, 51, 48, 109], .inr (.inr (.inr (.inr (.inr (.inl ⟨rfl, rfl, rfl⟩))))), rfl, rfl, hB.alloc hB.size _, by simp; omega, hbd.alloc _⟩
      case measure => simp [intOf]
    · have hidx := units_index5
      unfold unitsV at hidx
      have hq : Hid (∀ W : World, Calls Tryd.prog 55 #[.int .i64 1, .int .i64 10] W fun x w' => x = .returned (.string ⟨#[49]⟩) ∧ Below W.heap.size W w') := Lib.hid (fun W => format_small 1 (by omega) (by decide +kernel) W)
      go_wp2_with fail
      refine (hq.out _).mono ?_
      rintro x w1 ⟨rfl, hb1⟩
      have bx1 := Lib.hid (boxU_below (boxU_new wr _ _) hb1)
      have bd1 := Lib.hid (builder_below (hbd.alloc _) hb1)
      have B1 := Lib.hid ((hB.alloc hB.size _).trans (hb1.mono (Nat.le_trans hB.size (by simp))))
      have hz1' : wr.heap.size + 1 ≤ w1.heap.size := by have := hb1.size; simpa using this
      clear hb1
      go_wp2_with fail
      refine (write_any w.heap.size w.heap.size [49, 104, 51, 48, 109] [49] _ bd1.out (by decide) (by omega)).mono ?_
      rintro x w2 ⟨rfl, hbd2, hb2, hk2⟩
      have bx2 := Lib.hid (boxU_kept bx1.out hk2 (by omega))
      have B2 := Lib.hid (B1.out.trans hb2)
      have bd2 := Lib.hid hbd2
      have hz2' : wr.heap.size + 1 ≤ w2.heap.size := Nat.le_trans hz1' hb2.size
      clear hbd2 hb2 hk2
      obtain ⟨x0, x1⟩ := boxU_cells bx2.out
      go_wp2_with fail
      refine (write_any w.heap.size w.heap.size [49, 104, 51, 48, 109, 49] [110, 115] _ bd2.out (by decide) (by omega)).mono ?_
      rintro x w3 ⟨rfl, hbd3, hb3, hk3⟩
      have bx3 := Lib.hid (boxU_kept bx2.out hk3 (by omega))
      have B3 := B2.out.trans hb3
      have hz3' : wr.heap.size + 1 ≤ w3.heap.size := Nat.le_trans hz2' hb3.size
      clear hb3 hk3 x0 x1
      obtain ⟨x0, x1⟩ := boxU_cells bx3.out
      go_wp2
      go_roundw
      case rel => exact ⟨6, 0, [49, 104, 51, 48, 109, 49, 110, 115], .inr (.inr (.inr (.inr (.inr (.inr (⟨rfl, rfl, rfl⟩)))))), rfl, rfl, B3, by omega, hbd3⟩
      case measure => simp [intOf]
    · go_wp2_with (go_at_call 56; refine (Tryd.Builder_String_any_k w.heap.size w.heap.size [49, 104, 51, 48, 109, 49, 110, 115] _ hbd hB.size).mono ?_; rintro e w1 ⟨rfl, _, hb1, _⟩)
      go_ret2
      exact ⟨rfl, hB.trans hb1⟩
end Go.Proofs.YteoekkhgpdhnhaaDoor
