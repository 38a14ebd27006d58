/- THE WALKS of package hist: HistMerges. -/
import Derived.Test.YtgmknhogogobjaaJh
import Derived.Deep.RegionLaw
import Derived.Deep.AppendLies
import Derived.Laws.MakeOwn
namespace Go.Proofs.Ytgmknhogogobjaa
open Go Go.RowKit
set_option maxRecDepth 100000
set_option maxHeartbeats 12800000
theorem merges_no {l h d : Int} {A B : Option Addr} {n1 n2 ca cb : Nat} (r : Sc.rightB l h d = false) (W : World) : Calls Try.prog 8 #[.agg #[.int .i64 l, .int .i64 h, .int .i64 d], .slice A n1 ca, .slice B n2 cb] W fun e w' => e = .returned (.bool true) ∧ Below W.heap.size W w' := by
  have HB0 := Lib.hid (show Below W.heap.size W (W.alloc (.cells #[.int .i64 l, .int .i64 h, .int .i64 d] 23)) from (Below.refl _ _).alloc (Nat.le_refl _) _)
  have HS0 := Lib.hid (Row.new W 23 [.int .i64 l, .int .i64 h, .int .i64 d])
  have R := Lib.hid r
  clear r
  go_enter Try.func8, Try.ntmps8
  go_wp2_with (first
    | (go_at_call 11; have hbb := HB4.out; (with_reducible refine (hnew_no R.out _).mono ?_); rintro e w5 ⟨rfl, hb⟩; have HB5 := Lib.hid (hbb.trans (hb.mono hbb.size)); clear hbb hb)
    | (go_at_call 11; have hbb := HB3.out; (with_reducible refine (hnew_no R.out _).mono ?_); rintro e w4 ⟨rfl, hb⟩; have HB4 := Lib.hid (hbb.trans (hb.mono hbb.size)); have HS4 := Lib.hid (HS3.out.below hb HS3.out.lt); clear hbb hb; have p0 := HS4.out.cell 0; have p1 := HS4.out.cell 1; have p2 := HS4.out.cell 2)
    | (go_at_call 11; have hbb := HB2.out; (with_reducible refine (hnew_no R.out _).mono ?_); rintro e w3 ⟨rfl, hb⟩; have HB3 := Lib.hid (hbb.trans (hb.mono hbb.size)); have HS3 := Lib.hid (HS2.out.below hb HS2.out.lt); clear hbb hb; have p0 := HS3.out.cell 0; have p1 := HS3.out.cell 1; have p2 := HS3.out.cell 2)
    | (go_at_call 11; have hbb := HB1.out; (with_reducible refine (hnew_no R.out _).mono ?_); rintro e w2 ⟨rfl, hb⟩; have HB2 := Lib.hid (hbb.trans (hb.mono hbb.size)); have HS2 := Lib.hid (HS1.out.below hb HS1.out.lt); clear hbb hb; have p0 := HS2.out.cell 0; have p1 := HS2.out.cell 1; have p2 := HS2.out.cell 2)
    | (go_at_call 13; (with_reducible refine (begins_any _).mono ?_); rintro e w1 ⟨rfl, hb⟩; have HB1 := Lib.hid (HB0.out.trans (hb.mono HB0.out.size)); have HS1 := Lib.hid (HS0.out.below hb HS0.out.lt); clear hb; have p0 := HS1.out.cell 0; have p1 := HS1.out.cell 1; have p2 := HS1.out.cell 2))
  go_ret
  exact ⟨rfl, HB5.out⟩
theorem merges_big1 {l h d : Int} {m ca cb : Nat} {A B : Option Addr} {opa opb : List (Int × Int × Int)} (r : Sc.rightB l h d = true) (hm : m = Sc.cnt l h d) (W : World) (hEa : Ext3 .u8 .i64 .u64 W A opa) (hEb : Ext3 .u8 .i64 .u64 W B opb) (hra : opa.length * 24 ≤ 140737488355328) (_hrb : opb.length * 24 ≤ 140737488355328) (h0a : ∀ (j : Nat) (op : Int × Int × Int), opa[j]? = some op → 0 ≤ op.2.2) (h0b : ∀ (j : Nat) (op : Int × Int × Int), opb[j]? = some op → 0 ≤ op.2.2) (la : littleF opa = false) :
    Calls Try.prog 8 #[.agg #[.int .i64 l, .int .i64 h, .int .i64 d], .slice A opa.length ca, .slice B opb.length cb] W fun e w' => e = .returned (.bool true) ∧ Below W.heap.size W w' := by
  have HD0 : Hid (Lab W l h d m [] [] [] [] (W.alloc (.cells #[.int .i64 l, .int .i64 h, .int .i64 d] 23))) := Lib.hid ⟨⟨Row.new W _ _, (fun r hr => by cases hr), (fun e he => by cases he), (Below.refl _ _).alloc (Nat.le_refl _) _⟩, (fun p b rs hp _ => by simp at hp), (fun p q b c _ hp _ => by simp at hp), (fun b hb => by cases hb), (fun b hb => by cases hb), (fun e he => by cases he), (fun e he => by cases he), (fun e he => by cases he), List.Pairwise.nil, (fun r hr => by cases hr)⟩
  have HEA := Lib.hid hEa
  have HEB := Lib.hid hEb
  have H0A := Lib.hid h0a
  have H0B := Lib.hid h0b
  have R := Lib.hid r
  have HM := Lib.hid hm
  have HP : Hid (0 < m) := Lib.hid (by have := (cnt_few r).1; omega)
  clear hEa hEb h0a h0b r hm
  have LA := Lib.hid la
  clear la
  go_enter Try.func8, Try.ntmps8
  go_wp2_with (first
    | (go_at_call 11; have hll := HL3.out; (with_reducible refine (hnew_yes R.out _).mono ?_); rintro e wE ⟨b3, k3, w3, rfl, h1, h2, h3, hh, hb⟩; have HL4 := Lib.hid (hll.new rfl h3 (by rw [HM.out]; exact hh) hb); clear hll h1 h2 h3 hh hb; have p0 := HL4.out.held.sc.cell 0; have p1 := HL4.out.held.sc.cell 1; have p2 := HL4.out.held.sc.cell 2)
    | (go_at_call 11; have hll := HL2.out; (with_reducible refine (hnew_yes R.out _).mono ?_); rintro e wD ⟨b2, k2, w2, rfl, h1, h2, h3, hh, hb⟩; have HL3 := Lib.hid (hll.new rfl h3 (by rw [HM.out]; exact hh) hb); clear hll h1 h2 h3 hh hb; have p0 := HL3.out.held.sc.cell 0; have p1 := HL3.out.held.sc.cell 1; have p2 := HL3.out.held.sc.cell 2)
    | (go_at_call 11; have hll := HL1.out; (with_reducible refine (hnew_yes R.out _).mono ?_); rintro e wC ⟨b1, k1, w1, rfl, h1, h2, h3, hh, hb⟩; have HL2 := Lib.hid (hll.new rfl h3 (by rw [HM.out]; exact hh) hb); clear hll h1 h2 h3 hh hb; have p0 := HL2.out.held.sc.cell 0; have p1 := HL2.out.held.sc.cell 1; have p2 := HL2.out.held.sc.cell 2)
    | (go_at_call 11; have hll := HL0.out; (with_reducible refine (hnew_yes R.out _).mono ?_); rintro e wB ⟨b0, k0, w0, rfl, h1, h2, h3, hh, hb⟩; have HL1 := Lib.hid (hll.new rfl h3 (by rw [HM.out]; exact hh) hb); clear hll h1 h2 h3 hh hb; have p0 := HL1.out.held.sc.cell 0; have p1 := HL1.out.held.sc.cell 1; have p2 := HL1.out.held.sc.cell 2)
    | (go_at_call 13; (with_reducible refine (begins_any _).mono ?_); rintro e wA ⟨rfl, hb⟩; have HL0 := Lib.hid (HD0.out.on hb); clear hb; have p0 := HL0.out.held.sc.cell 0; have p1 := HL0.out.held.sc.cell 1; have p2 := HL0.out.held.sc.cell 2)
    | (go_at_call 34; (with_reducible refine (little_any (HEA.out.on HL4.out.held.low) hra H0A.out).mono ?_); rw [LA.out]; rintro e wx ⟨rfl, rfl⟩))
  go_ret
  exact ⟨rfl, HL4.out.held.low⟩
theorem merges_big2 {l h d : Int} {m ca cb : Nat} {A B : Option Addr} {opa opb : List (Int × Int × Int)} (r : Sc.rightB l h d = true) (hm : m = Sc.cnt l h d) (W : World) (hEa : Ext3 .u8 .i64 .u64 W A opa) (hEb : Ext3 .u8 .i64 .u64 W B opb) (hra : opa.length * 24 ≤ 140737488355328) (hrb : opb.length * 24 ≤ 140737488355328) (h0a : ∀ (j : Nat) (op : Int × Int × Int), opa[j]? = some op → 0 ≤ op.2.2) (h0b : ∀ (j : Nat) (op : Int × Int × Int), opb[j]? = some op → 0 ≤ op.2.2) (la : littleF opa = true) (lb : littleF opb = false) :
    Calls Try.prog 8 #[.agg #[.int .i64 l, .int .i64 h, .int .i64 d], .slice A opa.length ca, .slice B opb.length cb] W fun e w' => e = .returned (.bool true) ∧ Below W.heap.size W w' := by
  have HD0 : Hid (Lab W l h d m [] [] [] [] (W.alloc (.cells #[.int .i64 l, .int .i64 h, .int .i64 d] 23))) := Lib.hid ⟨⟨Row.new W _ _, (fun r hr => by cases hr), (fun e he => by cases he), (Below.refl _ _).alloc (Nat.le_refl _) _⟩, (fun p b rs hp _ => by simp at hp), (fun p q b c _ hp _ => by simp at hp), (fun b hb => by cases hb), (fun b hb => by cases hb), (fun e he => by cases he), (fun e he => by cases he), (fun e he => by cases he), List.Pairwise.nil, (fun r hr => by cases hr)⟩
  have HEA := Lib.hid hEa
  have HEB := Lib.hid hEb
  have H0A := Lib.hid h0a
  have H0B := Lib.hid h0b
  have R := Lib.hid r
  have HM := Lib.hid hm
  have HP : Hid (0 < m) := Lib.hid (by have := (cnt_few r).1; omega)
  clear hEa hEb h0a h0b r hm
  have LA := Lib.hid la
  have LB := Lib.hid lb
  clear la lb
  go_enter Try.func8, Try.ntmps8
  go_wp2_with (first
    | (go_at_call 11; have hll := HL3.out; (with_reducible refine (hnew_yes R.out _).mono ?_); rintro e wE ⟨b3, k3, w3, rfl, h1, h2, h3, hh, hb⟩; have HL4 := Lib.hid (hll.new rfl h3 (by rw [HM.out]; exact hh) hb); clear hll h1 h2 h3 hh hb; have p0 := HL4.out.held.sc.cell 0; have p1 := HL4.out.held.sc.cell 1; have p2 := HL4.out.held.sc.cell 2)
    | (go_at_call 11; have hll := HL2.out; (with_reducible refine (hnew_yes R.out _).mono ?_); rintro e wD ⟨b2, k2, w2, rfl, h1, h2, h3, hh, hb⟩; have HL3 := Lib.hid (hll.new rfl h3 (by rw [HM.out]; exact hh) hb); clear hll h1 h2 h3 hh hb; have p0 := HL3.out.held.sc.cell 0; have p1 := HL3.out.held.sc.cell 1; have p2 := HL3.out.held.sc.cell 2)
    | (go_at_call 11; have hll := HL1.out; (with_reducible refine (hnew_yes R.out _).mono ?_); rintro e wC ⟨b1, k1, w1, rfl, h1, h2, h3, hh, hb⟩; have HL2 := Lib.hid (hll.new rfl h3 (by rw [HM.out]; exact hh) hb); clear hll h1 h2 h3 hh hb; have p0 := HL2.out.held.sc.cell 0; have p1 := HL2.out.held.sc.cell 1; have p2 := HL2.out.held.sc.cell 2)
    | (go_at_call 11; have hll := HL0.out; (with_reducible refine (hnew_yes R.out _).mono ?_); rintro e wB ⟨b0, k0, w0, rfl, h1, h2, h3, hh, hb⟩; have HL1 := Lib.hid (hll.new rfl h3 (by rw [HM.out]; exact hh) hb); clear hll h1 h2 h3 hh hb; have p0 := HL1.out.held.sc.cell 0; have p1 := HL1.out.held.sc.cell 1; have p2 := HL1.out.held.sc.cell 2)
    | (go_at_call 13; (with_reducible refine (begins_any _).mono ?_); rintro e wA ⟨rfl, hb⟩; have HL0 := Lib.hid (HD0.out.on hb); clear hb; have p0 := HL0.out.held.sc.cell 0; have p1 := HL0.out.held.sc.cell 1; have p2 := HL0.out.held.sc.cell 2)
    | (go_at_call 34; (with_reducible refine (little_any (HEA.out.on HL4.out.held.low) hra H0A.out).mono ?_); rw [LA.out]; rintro e wx ⟨rfl, rfl⟩)
    | (go_at_call 34; (with_reducible refine (little_any (HEB.out.on HL4.out.held.low) hrb H0B.out).mono ?_); rw [LB.out]; rintro e wx ⟨rfl, rfl⟩))
  go_ret
  exact ⟨rfl, HL4.out.held.low⟩
theorem merges_yes {l h d : Int} {m ca cb : Nat} {A B : Option Addr} {opa opb : List (Int × Int × Int)} (r : Sc.rightB l h d = true) (hm : m = Sc.cnt l h d) (W : World) (hEa : Ext3 .u8 .i64 .u64 W A opa) (hEb : Ext3 .u8 .i64 .u64 W B opb) (hra : opa.length * 24 ≤ 140737488355328) (hrb : opb.length * 24 ≤ 140737488355328) (h0a : ∀ (j : Nat) (op : Int × Int × Int), opa[j]? = some op → 0 ≤ op.2.2) (h0b : ∀ (j : Nat) (op : Int × Int × Int), opb[j]? = some op → 0 ≤ op.2.2) (la : littleF opa = true) (lb : littleF opb = true) :
    Calls Try.prog 8 #[.agg #[.int .i64 l, .int .i64 h, .int .i64 d], .slice A opa.length ca, .slice B opb.length cb] W fun e w' => e = .returned (.bool true) ∧ Below W.heap.size W w' := by
  have HD0 : Hid (Lab W l h d m [] [] [] [] (W.alloc (.cells #[.int .i64 l, .int .i64 h, .int .i64 d] 23))) := Lib.hid ⟨⟨Row.new W _ _, (fun r hr => by cases hr), (fun e he => by cases he), (Below.refl _ _).alloc (Nat.le_refl _) _⟩, (fun p b rs hp _ => by simp at hp), (fun p q b c _ hp _ => by simp at hp), (fun b hb => by cases hb), (fun b hb => by cases hb), (fun e he => by cases he), (fun e he => by cases he), (fun e he => by cases he), List.Pairwise.nil, (fun r hr => by cases hr)⟩
  have HEA := Lib.hid hEa
  have HEB := Lib.hid hEb
  have H0A := Lib.hid h0a
  have H0B := Lib.hid h0b
  have R := Lib.hid r
  have HM := Lib.hid hm
  have HP : Hid (0 < m) := Lib.hid (by have := (cnt_few r).1; omega)
  clear hEa hEb h0a h0b r hm
  have LA := Lib.hid la
  have LB := Lib.hid lb
  obtain ⟨ra, hra9⟩ : ∃ x, recsO l h d opa = x := ⟨_, rfl⟩
  obtain ⟨rb, hrb9⟩ : ∃ x, recsO l h d opb = x := ⟨_, rfl⟩
  have okA := recs_ok (l := l) (h := h) (d := d) H0A.out opa.length (Nat.le_refl _)
  have okB := recs_ok (l := l) (h := h) (d := d) H0B.out opb.length (Nat.le_refl _)
  rw [List.take_length, hra9] at okA
  rw [List.take_length, hrb9] at okB
  have tA := little_sum la
  have tB := little_sum lb
  have lA := tN_low okA.1
  have lB := tN_low okB.1
  have okAB : ∀ q ∈ ra ++ rb, OkR l h d q := fun q hq => (List.mem_append.1 hq).elim (okA.1 q) (okB.1 q)
  have cA : checkS l h d (shotR m ra) = 0 := by rw [HM.out]; exact shot_check R.out okA.1 (by omega)
  have cB : checkS l h d (shotR m rb) = 0 := by rw [HM.out]; exact shot_check R.out okB.1 (by omega)
  have cE : checkS l h d (shotR m []) = 0 := by rw [HM.out]; exact shot_check R.out (fun q hq => by cases hq) (by decide)
  have cG : checkS l h d (shotR m (ra ++ rb)) = 0 := by rw [HM.out]; exact shot_check R.out okAB (by rw [tN_app]; omega)
  have gA : gS (shotR m ra) (shotR m rb) = shotR m (ra ++ rb) := gs_all R.out okA.1 okB.1
  have gB : gS (shotR m rb) (shotR m ra) = shotR m (ra ++ rb) := (gs_all R.out okB.1 okA.1).trans shot_comm
  have gE : gS (shotR m (ra ++ rb)) (shotR m []) = shotR m (ra ++ rb) := (gs_all R.out okAB (fun q hq => by cases hq)).trans (by rw [List.append_nil])
  have gZ : shotR m (rb ++ ra) = shotR m (ra ++ rb) := shot_comm
  have hml : m ≤ 65536 := by rw [HM.out]; have := (cnt_few R.out).2; omega
  have lens : ∀ rs, (shotR m rs).bu.length ≤ 17592186044416 := fun rs => by rw [shot_len]; omega
  have mA := merges_new (lens _) (lens _) cA cB gA
  have mB := merges_new (lens _) (lens _) cB cA gB
  have mE := merges_new (lens _) (lens _) cG cE gE
  have lG := lens (ra ++ rb)
  obtain ⟨fX, hfX⟩ : ∃ x, shotR m ra = x := ⟨_, rfl⟩
  obtain ⟨fY, hfY⟩ : ∃ x, shotR m rb = x := ⟨_, rfl⟩
  obtain ⟨fE, hfE⟩ : ∃ x, shotR m [] = x := ⟨_, rfl⟩
  obtain ⟨g, hg⟩ : ∃ x, shotR m (ra ++ rb) = x := ⟨_, rfl⟩
  rw [hfX, hfY, hg] at mA mB
  rw [hfE, hg] at mE
  rw [hg] at gZ lG
  unfold MergesNew at mA mB mE
  have HFX := Lib.hid hfX
  have HFY := Lib.hid hfY
  have HFE := Lib.hid hfE
  have HFZ := Lib.hid gZ
  have HMa := Lib.hid mA
  have HMb := Lib.hid mB
  have HMc := Lib.hid mE
  have HLG := Lib.hid lG
  have HRA := Lib.hid hra9
  have HRB := Lib.hid hrb9
  clear okA okB tA tB lA lB okAB cA cB cE cG gA gB gE gZ hml lens mA mB mE lG hfX hfY hfE hg hra9 hrb9
  clear la lb
  go_enter Try.func8, Try.ntmps8
  go_wp2_with (first
    | (go_at_call 11; have hll := HL3.out; (with_reducible refine (hnew_yes R.out _).mono ?_); rintro e wE ⟨b3, k3, w3, rfl, h1, h2, h3, hh, hb⟩; have HL4 := Lib.hid (hll.new rfl h3 (by rw [HM.out]; exact hh) hb); clear hll h1 h2 h3 hh hb; have p0 := HL4.out.held.sc.cell 0; have p1 := HL4.out.held.sc.cell 1; have p2 := HL4.out.held.sc.cell 2)
    | (go_at_call 11; have hll := HL2.out; (with_reducible refine (hnew_yes R.out _).mono ?_); rintro e wD ⟨b2, k2, w2, rfl, h1, h2, h3, hh, hb⟩; have HL3 := Lib.hid (hll.new rfl h3 (by rw [HM.out]; exact hh) hb); clear hll h1 h2 h3 hh hb; have p0 := HL3.out.held.sc.cell 0; have p1 := HL3.out.held.sc.cell 1; have p2 := HL3.out.held.sc.cell 2)
    | (go_at_call 11; have hll := HL1.out; (with_reducible refine (hnew_yes R.out _).mono ?_); rintro e wC ⟨b1, k1, w1, rfl, h1, h2, h3, hh, hb⟩; have HL2 := Lib.hid (hll.new rfl h3 (by rw [HM.out]; exact hh) hb); clear hll h1 h2 h3 hh hb; have p0 := HL2.out.held.sc.cell 0; have p1 := HL2.out.held.sc.cell 1; have p2 := HL2.out.held.sc.cell 2)
    | (go_at_call 11; have hll := HL0.out; (with_reducible refine (hnew_yes R.out _).mono ?_); rintro e wB ⟨b0, k0, w0, rfl, h1, h2, h3, hh, hb⟩; have HL1 := Lib.hid (hll.new rfl h3 (by rw [HM.out]; exact hh) hb); clear hll h1 h2 h3 hh hb; have p0 := HL1.out.held.sc.cell 0; have p1 := HL1.out.held.sc.cell 1; have p2 := HL1.out.held.sc.cell 2)
    | (go_at_call 13; (with_reducible refine (begins_any _).mono ?_); rintro e wA ⟨rfl, hb⟩; have HL0 := Lib.hid (HD0.out.on hb); clear hb; have p0 := HL0.out.held.sc.cell 0; have p1 := HL0.out.held.sc.cell 1; have p2 := HL0.out.held.sc.cell 2)
    | (go_at_call 34; (with_reducible refine (little_any (HEA.out.on HL4.out.held.low) hra H0A.out).mono ?_); rw [LA.out]; rintro e wx ⟨rfl, rfl⟩)
    | (go_at_call 34; (with_reducible refine (little_any (HEB.out.on HL4.out.held.low) hrb H0B.out).mono ?_); rw [LB.out]; rintro e wx ⟨rfl, rfl⟩))
  go_loopw [15] (fun i wr => ∃ j : Nat, j ≤ opa.length ∧ i = .int .i64 j ∧ Lab W l h d m [⟨b0, k0, w0⟩, ⟨b1, k1, w1⟩, ⟨b2, k2, w2⟩, ⟨b3, k3, w3⟩] [recsO l h d (opa.take j), [], recsO l h d (opa.take j), []] [] [] wr) (fun i _ => opa.length - (intOf i).toNat)
  case atStart => exact ⟨0, Nat.zero_le _, rfl, HL4.out⟩
  case round =>
    obtain ⟨j, hj, rfl, hO⟩ := hrel
    have HO := Lib.hid hO
    clear hO
    by_cases hlt : j < opa.length
    · obtain ⟨⟨kd, v, n⟩, hop⟩ : ∃ op, opa[j]? = some op := ⟨opa[j], List.getElem?_eq_getElem hlt⟩
      obtain ⟨b', o', rfl, hbl, e0, e1, e2⟩ := (HEA.out.on HO.out.held.low) j _ hop
      obtain ⟨b'', o'', hbe, hbW, _⟩ := HEA.out j _ hop
      cases hbe
      have hlt2 : (j : Int) < (opa.length : Int) := by omega
      have hj3 : j * 3 ≤ 17592186044416 := by omega
      have E1 := Lib.hid e1
      have E2 := Lib.hid e2
      have HBW := Lib.hid hbW
      have HT := Lib.hid (recs_take (l := l) (h := h) (d := d) hop)
      obtain ⟨wy, hwy⟩ : ∃ y, whyR h v n = y := ⟨_, rfl⟩
      have HWY := Lib.hid hwy
      clear hop hbW hwy
      dsimp only at e0 e1 e2 HT
      go_wp2_with fail
      go_region_held3 (fun w' => w'.cell? ⟨b', o' + j * 3 + 1, none⟩ = some (.int .i64 v) ∧ w'.cell? ⟨b', o' + j * 3 + 2, none⟩ = some (.int .u64 n))
        (first | (with_reducible exact ⟨e1, e2⟩) | (with_reducible exact ⟨u1, u2⟩) | (with_reducible exact ⟨z1, z2⟩) | go_keep)
        (first
          | (go_at_call 29; (with_reducible refine ((HO.out.on (Below.refl _ _).drew).rec0 HM.out R.out).mono ?_); rw [HWY.out]; rintro e wa ⟨rfl, hL⟩; have HLa := Lib.hid hL; clear hL; have u1 := (HLa.out.held.low.cell (p := ⟨b', o' + j * 3 + 1, none⟩) HBW.out).trans (((HO.out.held.low.cell (p := ⟨b', o' + j * 3 + 1, none⟩) HBW.out).symm).trans E1.out); have u2 := (HLa.out.held.low.cell (p := ⟨b', o' + j * 3 + 2, none⟩) HBW.out).trans (((HO.out.held.low.cell (p := ⟨b', o' + j * 3 + 2, none⟩) HBW.out).symm).trans E2.out))
          | (go_at_call 29; (with_reducible refine (HLa.out.rec2 HM.out R.out).mono ?_); rw [HWY.out]; rintro e wb ⟨rfl, hL⟩; have HLb := Lib.hid hL; clear hL; have z1 := (HLb.out.held.low.cell (p := ⟨b', o' + j * 3 + 1, none⟩) HBW.out).trans (((HO.out.held.low.cell (p := ⟨b', o' + j * 3 + 1, none⟩) HBW.out).symm).trans E1.out); have z2 := (HLb.out.held.low.cell (p := ⟨b', o' + j * 3 + 2, none⟩) HBW.out).trans (((HO.out.held.low.cell (p := ⟨b', o' + j * 3 + 2, none⟩) HBW.out).symm).trans E2.out)))
      all_goals
        go_wp2_with fail
        go_roundw
        case rel => exact ⟨j + 1, by omega, by go_num, by rw [HT.out]; exact HLb.out⟩
        case measure => simp [intOf]; omega
    · obtain rfl : j = opa.length := by omega
      have HO1 : Hid (Lab W l h d m [⟨b0, k0, w0⟩, ⟨b1, k1, w1⟩, ⟨b2, k2, w2⟩, ⟨b3, k3, w3⟩] [recsO l h d opa, [], recsO l h d opa, []] [] [] wr) := Lib.hid (by have := HO.out; rwa [List.take_length] at this)
      clear HO
      go_wp2_with fail
      go_loopw [16] (fun i wr => ∃ j : Nat, j ≤ opb.length ∧ i = .int .i64 j ∧ Lab W l h d m [⟨b0, k0, w0⟩, ⟨b1, k1, w1⟩, ⟨b2, k2, w2⟩, ⟨b3, k3, w3⟩] [recsO l h d opa, recsO l h d (opb.take j), recsO l h d (opb.take j) ++ recsO l h d opa, []] [] [] wr) (fun i _ => opb.length - (intOf i).toNat)
      case atStart => exact ⟨0, Nat.zero_le _, rfl, HO1.out⟩
      case round =>
        obtain ⟨j, hj, rfl, hO⟩ := hrel
        have HO := Lib.hid hO
        clear hO
        by_cases hlt : j < opb.length
        · obtain ⟨⟨kd, v, n⟩, hop⟩ : ∃ op, opb[j]? = some op := ⟨opb[j], List.getElem?_eq_getElem hlt⟩
          obtain ⟨b', o', rfl, hbl, e0, e1, e2⟩ := (HEB.out.on HO.out.held.low) j _ hop
          obtain ⟨b'', o'', hbe, hbW, _⟩ := HEB.out j _ hop
          cases hbe
          have hlt2 : (j : Int) < (opb.length : Int) := by omega
          have hj3 : j * 3 ≤ 17592186044416 := by omega
          have E1 := Lib.hid e1
          have E2 := Lib.hid e2
          have HBW := Lib.hid hbW
          have HT := Lib.hid (recs_take (l := l) (h := h) (d := d) hop)
          obtain ⟨wy, hwy⟩ : ∃ y, whyR h v n = y := ⟨_, rfl⟩
          have HWY := Lib.hid hwy
          clear hop hbW hwy
          dsimp only at e0 e1 e2 HT
          go_wp2_with fail
          go_region_held3 (fun w' => w'.cell? ⟨b', o' + j * 3 + 1, none⟩ = some (.int .i64 v) ∧ w'.cell? ⟨b', o' + j * 3 + 2, none⟩ = some (.int .u64 n))
            (first | (with_reducible exact ⟨e1, e2⟩) | (with_reducible exact ⟨u1, u2⟩) | (with_reducible exact ⟨z1, z2⟩) | go_keep)
            (first
              | (go_at_call 29; (with_reducible refine ((HO.out.on (Below.refl _ _).drew).rec1 HM.out R.out).mono ?_); rw [HWY.out]; rintro e wa ⟨rfl, hL⟩; have HLa := Lib.hid hL; clear hL; have u1 := (HLa.out.held.low.cell (p := ⟨b', o' + j * 3 + 1, none⟩) HBW.out).trans (((HO.out.held.low.cell (p := ⟨b', o' + j * 3 + 1, none⟩) HBW.out).symm).trans E1.out); have u2 := (HLa.out.held.low.cell (p := ⟨b', o' + j * 3 + 2, none⟩) HBW.out).trans (((HO.out.held.low.cell (p := ⟨b', o' + j * 3 + 2, none⟩) HBW.out).symm).trans E2.out))
              | (go_at_call 29; (with_reducible refine (HLa.out.rec2 HM.out R.out).mono ?_); rw [HWY.out]; rintro e wb ⟨rfl, hL⟩; have HLb := Lib.hid hL; clear hL; have z1 := (HLb.out.held.low.cell (p := ⟨b', o' + j * 3 + 1, none⟩) HBW.out).trans (((HO.out.held.low.cell (p := ⟨b', o' + j * 3 + 1, none⟩) HBW.out).symm).trans E1.out); have z2 := (HLb.out.held.low.cell (p := ⟨b', o' + j * 3 + 2, none⟩) HBW.out).trans (((HO.out.held.low.cell (p := ⟨b', o' + j * 3 + 2, none⟩) HBW.out).symm).trans E2.out)))
          all_goals
            go_wp2_with fail
            go_roundw
            case rel => exact ⟨j + 1, by omega, by go_num, by rw [HT.out, List.append_assoc]; exact HLb.out⟩
            case measure => simp [intOf]; omega
        · obtain rfl : j = opb.length := by omega
          have HO2 : Hid (Lab W l h d m [⟨b0, k0, w0⟩, ⟨b1, k1, w1⟩, ⟨b2, k2, w2⟩, ⟨b3, k3, w3⟩] [ra, rb, rb ++ ra, []] [] [] wr) := Lib.hid (by have := HO.out; rw [List.take_length, HRA.out, HRB.out] at this; exact this)
          clear HO
          have HA0 := Lib.hid (HO2.out.on ((Below.refl _ _).drew))
          have HZ0 := Lib.hid ((HO2.out.box [.int .u64 0, .int .u64 0, .int .i64 0, .int .i64 0, .slice none 0 0]).on ((Below.refl _ _).drew))
          obtain ⟨p0, p1, p2⟩ := HO2.out.lim3
          go_upto_region 21 with fail
          go_cut [8, 17] (fun s1 s2 wx => ∃ (bq : Nat) (Aq : Option Addr) (nq : Nat) (es2 : List (Option Addr × List Int)), s1 = .int .i64 0 ∧ s2 = .pointer (some ⟨bq, 0, none⟩) ∧ (∀ x ∈ [], x ∈ es2) ∧ Lab W l h d m [⟨b0, k0, w0⟩, ⟨b1, k1, w1⟩, ⟨b2, k2, w2⟩, ⟨b3, k3, w3⟩] [ra, rb, rb ++ ra, []] ((bq, [.int .u64 g.c, .int .u64 g.su, .int .i64 g.le, .int .i64 g.gr, .slice Aq g.bu.length nq]) :: []) ((Aq, g.bu) :: es2) wx)
          case first =>
            as_aux_lemma =>
              go_region_held3 (fun w' => w'.cell? ⟨W.heap.size, 0, none⟩ = some (.int .i64 l) ∧ w'.cell? ⟨W.heap.size, 1, none⟩ = some (.int .i64 h) ∧ w'.cell? ⟨W.heap.size, 2, none⟩ = some (.int .i64 d))
                (first | (with_reducible exact HA0.out.lim3) | (with_reducible exact HA1.out.lim3) | (with_reducible exact HA2.out.lim3) | (with_reducible exact HA3.out.lim3) | (with_reducible exact HZ0.out.lim3) | (with_reducible exact HZ1.out.lim3) | (with_reducible exact HZ2.out.lim3) | (with_reducible exact HZ3.out.lim3) | (with_reducible exact HZ1b.out.lim3) | (with_reducible exact HZ2b.out.lim3) | (with_reducible exact HZ3b.out.lim3) | (with_reducible exact (HA3.out.box [.int .u64 g.c, .int .u64 g.su, .int .i64 g.le, .int .i64 g.gr, .slice Am3 g.bu.length cm3]).lim3) | (with_reducible exact (HZ3.out.fill (.int .u64 g.c) (.int .u64 g.su) (.int .i64 g.le) (.int .i64 g.gr) (.slice Am3 g.bu.length cm3)).lim3) | go_keep)
                (first
                  | (go_at_call 30; (with_reducible refine (Lab.show0 HFX.out HA0.out HP.out).mono ?_); rintro e w1 ⟨Am1, cm1, rfl, hL⟩; have HA1 := Lib.hid hL; have HZ1b := Lib.hid (hL.box [.int .u64 0, .int .u64 0, .int .i64 0, .int .i64 0, .slice none 0 0]); clear hL)
                  | (go_at_call 30; (with_reducible refine (Lab.show0 HFX.out HZ0.out HP.out).mono ?_); rintro e w1 ⟨Am1, cm1, rfl, hL⟩; have HZ1 := Lib.hid hL; clear hL)
                  | (go_at_call 30; (with_reducible refine (Lab.show1 HFY.out HA1.out HP.out).mono ?_); rintro e w2 ⟨Am2, cm2, rfl, hL⟩; have HA2 := Lib.hid hL; have HZ2b := Lib.hid (hL.box [.int .u64 0, .int .u64 0, .int .i64 0, .int .i64 0, .slice none 0 0]); clear hL)
                  | (go_at_call 30; (with_reducible refine (Lab.show1 HFY.out HZ1.out HP.out).mono ?_); rintro e w2 ⟨Am2, cm2, rfl, hL⟩; have HZ2 := Lib.hid hL; clear hL)
                  | (go_at_call 30; (with_reducible refine (Lab.show1 HFY.out HZ1b.out HP.out).mono ?_); rintro e w2 ⟨Am2, cm2, rfl, hL⟩; have HZ2 := Lib.hid hL; clear hL)
                  | (go_at_call 25; (with_reducible refine (HMa.out _ _ _ _ _ (HA2.out.held.exts _ (List.mem_cons_of_mem _ List.mem_cons_self)) (HA2.out.held.exts _ (List.mem_cons_self))).mono ?_); rintro e w3 ⟨Am3, cm3, rfl, hx, hf, hb⟩; have HA3 := Lib.hid (HA2.out.made hb hx hf); have HZ3b := Lib.hid (HA3.out.box [.int .u64 0, .int .u64 0, .int .i64 0, .int .i64 0, .slice none 0 0]); clear hx hf hb)
                  | (go_at_call 25; (with_reducible refine (HMa.out _ _ _ _ _ (HZ2.out.held.exts _ (List.mem_cons_of_mem _ List.mem_cons_self)) (HZ2.out.held.exts _ (List.mem_cons_self))).mono ?_); rintro e w3 ⟨Am3, cm3, rfl, hx, hf, hb⟩; have HZ3 := Lib.hid (HZ2.out.made hb hx hf); have hzr := HZ3.out.held.rows _ List.mem_cons_self; obtain ⟨y0, y1, y2, y3, y4⟩ := hzr.five; have yf := hzr.free; have yl := hzr.lt; dsimp only at y0 y1 y2 y3 y4 yf yl; clear hzr; clear hx hf hb)
                  | (go_at_call 25; (with_reducible refine (HMa.out _ _ _ _ _ (HZ2b.out.held.exts _ (List.mem_cons_of_mem _ List.mem_cons_self)) (HZ2b.out.held.exts _ (List.mem_cons_self))).mono ?_); rintro e w3 ⟨Am3, cm3, rfl, hx, hf, hb⟩; have HZ3 := Lib.hid (HZ2b.out.made hb hx hf); have hzr := HZ3.out.held.rows _ List.mem_cons_self; obtain ⟨y0, y1, y2, y3, y4⟩ := hzr.five; have yf := hzr.free; have yl := hzr.lt; dsimp only at y0 y1 y2 y3 y4 yf yl; clear hzr; clear hx hf hb))
              all_goals
                go_wp2_with fail
                go_meet
                first
                  | exact ⟨_, Am3, cm3, _, rfl, rfl, (fun x hx => List.mem_cons_of_mem _ (List.mem_cons_of_mem _ hx)), HA3.out.box [.int .u64 g.c, .int .u64 g.su, .int .i64 g.le, .int .i64 g.gr, .slice Am3 g.bu.length cm3]⟩
                  | exact ⟨_, Am3, cm3, _, rfl, rfl, (fun x hx => List.mem_cons_of_mem _ (List.mem_cons_of_mem _ hx)), (HZ3.out.fill (.int .u64 g.c) (.int .u64 g.su) (.int .i64 g.le) (.int .i64 g.gr) (.slice Am3 g.bu.length cm3))⟩
          case rest =>
            obtain ⟨bm, Am, nm, esm, rfl, rfl, hem, hL⟩ := hcut
            have HLm := Lib.hid hL
            have HEm := Lib.hid hem
            clear hL hem HA0 HZ0 p0 p1 p2 HO2
            have HA0 := Lib.hid (HLm.out.on ((Below.refl _ _).drew))
            have HZ0 := Lib.hid ((HLm.out.box [.int .u64 0, .int .u64 0, .int .i64 0, .int .i64 0, .slice none 0 0]).on ((Below.refl _ _).drew))
            obtain ⟨p0, p1, p2⟩ := HLm.out.lim3
            go_upto_region 22 with fail
            go_cut [10, 18] (fun s1 s2 wx => ∃ (bq : Nat) (Aq : Option Addr) (nq : Nat) (es2 : List (Option Addr × List Int)), s1 = .int .i64 0 ∧ s2 = .pointer (some ⟨bq, 0, none⟩) ∧ (∀ x ∈ ((Am, g.bu) :: esm), x ∈ es2) ∧ Lab W l h d m [⟨b0, k0, w0⟩, ⟨b1, k1, w1⟩, ⟨b2, k2, w2⟩, ⟨b3, k3, w3⟩] [ra, rb, rb ++ ra, []] ((bq, [.int .u64 g.c, .int .u64 g.su, .int .i64 g.le, .int .i64 g.gr, .slice Aq g.bu.length nq]) :: [(bm, [.int .u64 g.c, .int .u64 g.su, .int .i64 g.le, .int .i64 g.gr, .slice Am g.bu.length nm])]) ((Aq, g.bu) :: es2) wx)
            case first =>
              as_aux_lemma =>
                go_region_held3 (fun w' => w'.cell? ⟨W.heap.size, 0, none⟩ = some (.int .i64 l) ∧ w'.cell? ⟨W.heap.size, 1, none⟩ = some (.int .i64 h) ∧ w'.cell? ⟨W.heap.size, 2, none⟩ = some (.int .i64 d))
                  (first | (with_reducible exact HA0.out.lim3) | (with_reducible exact HA1.out.lim3) | (with_reducible exact HA2.out.lim3) | (with_reducible exact HA3.out.lim3) | (with_reducible exact HZ0.out.lim3) | (with_reducible exact HZ1.out.lim3) | (with_reducible exact HZ2.out.lim3) | (with_reducible exact HZ3.out.lim3) | (with_reducible exact HZ1b.out.lim3) | (with_reducible exact HZ2b.out.lim3) | (with_reducible exact HZ3b.out.lim3) | (with_reducible exact (HA3.out.box [.int .u64 g.c, .int .u64 g.su, .int .i64 g.le, .int .i64 g.gr, .slice An3 g.bu.length cn3]).lim3) | (with_reducible exact (HZ3.out.fill (.int .u64 g.c) (.int .u64 g.su) (.int .i64 g.le) (.int .i64 g.gr) (.slice An3 g.bu.length cn3)).lim3) | go_keep)
                  (first
                    | (go_at_call 30; (with_reducible refine (Lab.show1 HFY.out HA0.out HP.out).mono ?_); rintro e w1 ⟨An1, cn1, rfl, hL⟩; have HA1 := Lib.hid hL; have HZ1b := Lib.hid (hL.box [.int .u64 0, .int .u64 0, .int .i64 0, .int .i64 0, .slice none 0 0]); clear hL)
                    | (go_at_call 30; (with_reducible refine (Lab.show1 HFY.out HZ0.out HP.out).mono ?_); rintro e w1 ⟨An1, cn1, rfl, hL⟩; have HZ1 := Lib.hid hL; clear hL)
                    | (go_at_call 30; (with_reducible refine (Lab.show0 HFX.out HA1.out HP.out).mono ?_); rintro e w2 ⟨An2, cn2, rfl, hL⟩; have HA2 := Lib.hid hL; have HZ2b := Lib.hid (hL.box [.int .u64 0, .int .u64 0, .int .i64 0, .int .i64 0, .slice none 0 0]); clear hL)
                    | (go_at_call 30; (with_reducible refine (Lab.show0 HFX.out HZ1.out HP.out).mono ?_); rintro e w2 ⟨An2, cn2, rfl, hL⟩; have HZ2 := Lib.hid hL; clear hL)
                    | (go_at_call 30; (with_reducible refine (Lab.show0 HFX.out HZ1b.out HP.out).mono ?_); rintro e w2 ⟨An2, cn2, rfl, hL⟩; have HZ2 := Lib.hid hL; clear hL)
                    | (go_at_call 25; (with_reducible refine (HMb.out _ _ _ _ _ (HA2.out.held.exts _ (List.mem_cons_of_mem _ List.mem_cons_self)) (HA2.out.held.exts _ (List.mem_cons_self))).mono ?_); rintro e w3 ⟨An3, cn3, rfl, hx, hf, hb⟩; have HA3 := Lib.hid (HA2.out.made hb hx hf); have HZ3b := Lib.hid (HA3.out.box [.int .u64 0, .int .u64 0, .int .i64 0, .int .i64 0, .slice none 0 0]); clear hx hf hb)
                    | (go_at_call 25; (with_reducible refine (HMb.out _ _ _ _ _ (HZ2.out.held.exts _ (List.mem_cons_of_mem _ List.mem_cons_self)) (HZ2.out.held.exts _ (List.mem_cons_self))).mono ?_); rintro e w3 ⟨An3, cn3, rfl, hx, hf, hb⟩; have HZ3 := Lib.hid (HZ2.out.made hb hx hf); have hzr := HZ3.out.held.rows _ List.mem_cons_self; obtain ⟨y0, y1, y2, y3, y4⟩ := hzr.five; have yf := hzr.free; have yl := hzr.lt; dsimp only at y0 y1 y2 y3 y4 yf yl; clear hzr; clear hx hf hb)
                    | (go_at_call 25; (with_reducible refine (HMb.out _ _ _ _ _ (HZ2b.out.held.exts _ (List.mem_cons_of_mem _ List.mem_cons_self)) (HZ2b.out.held.exts _ (List.mem_cons_self))).mono ?_); rintro e w3 ⟨An3, cn3, rfl, hx, hf, hb⟩; have HZ3 := Lib.hid (HZ2b.out.made hb hx hf); have hzr := HZ3.out.held.rows _ List.mem_cons_self; obtain ⟨y0, y1, y2, y3, y4⟩ := hzr.five; have yf := hzr.free; have yl := hzr.lt; dsimp only at y0 y1 y2 y3 y4 yf yl; clear hzr; clear hx hf hb))
                all_goals
                  go_wp2_with fail
                  go_meet
                  first
                    | exact ⟨_, An3, cn3, _, rfl, rfl, (fun x hx => List.mem_cons_of_mem _ (List.mem_cons_of_mem _ hx)), HA3.out.box [.int .u64 g.c, .int .u64 g.su, .int .i64 g.le, .int .i64 g.gr, .slice An3 g.bu.length cn3]⟩
                    | exact ⟨_, An3, cn3, _, rfl, rfl, (fun x hx => List.mem_cons_of_mem _ (List.mem_cons_of_mem _ hx)), (HZ3.out.fill (.int .u64 g.c) (.int .u64 g.su) (.int .i64 g.le) (.int .i64 g.gr) (.slice An3 g.bu.length cn3))⟩
            case rest =>
              obtain ⟨bn, An, nn, esn, rfl, rfl, hen, hL⟩ := hcut
              have HLn := Lib.hid hL
              have HEn := Lib.hid hen
              clear hL hen HA0 HZ0 p0 p1 p2 HLm
              have HA0 := Lib.hid (HLn.out.on ((Below.refl _ _).drew))
              have HZ0 := Lib.hid ((HLn.out.box [.int .u64 0, .int .u64 0, .int .i64 0, .int .i64 0, .slice none 0 0]).on ((Below.refl _ _).drew))
              obtain ⟨p0, p1, p2, x0, x1, x2, x3, x4⟩ := HLn.out.lim8 (List.mem_cons_of_mem _ List.mem_cons_self)
              go_upto_region 23 with fail
              go_cut [12, 19] (fun s1 s2 wx => ∃ (bq : Nat) (Am_ : Option Addr) (nm_ : Nat) (es2 : List (Option Addr × List Int)), s1 = .int .i64 0 ∧ s2 = .pointer (some ⟨bq, 0, none⟩) ∧ (∀ x ∈ ((An, g.bu) :: esn), x ∈ es2) ∧ Lab W l h d m [⟨b0, k0, w0⟩, ⟨b1, k1, w1⟩, ⟨b2, k2, w2⟩, ⟨b3, k3, w3⟩] [ra, rb, rb ++ ra, []] ((bq, [.int .u64 g.c, .int .u64 g.su, .int .i64 g.le, .int .i64 g.gr, .slice Am_ g.bu.length nm_]) :: [(bn, [.int .u64 g.c, .int .u64 g.su, .int .i64 g.le, .int .i64 g.gr, .slice An g.bu.length nn]), (bm, [.int .u64 g.c, .int .u64 g.su, .int .i64 g.le, .int .i64 g.gr, .slice Am g.bu.length nm])]) ((Am_, g.bu) :: es2) wx)
              case first =>
                as_aux_lemma =>
                  go_region_held3 (fun w' => w'.cell? ⟨W.heap.size, 0, none⟩ = some (.int .i64 l) ∧ w'.cell? ⟨W.heap.size, 1, none⟩ = some (.int .i64 h) ∧ w'.cell? ⟨W.heap.size, 2, none⟩ = some (.int .i64 d) ∧ w'.cell? ⟨bm, 0, none⟩ = some (.int .u64 g.c) ∧ w'.cell? ⟨bm, 1, none⟩ = some (.int .u64 g.su) ∧ w'.cell? ⟨bm, 2, none⟩ = some (.int .i64 g.le) ∧ w'.cell? ⟨bm, 3, none⟩ = some (.int .i64 g.gr) ∧ w'.cell? ⟨bm, 4, none⟩ = some (.slice Am g.bu.length nm))
                    (first | (with_reducible exact HA0.out.lim8 (List.mem_cons_of_mem _ List.mem_cons_self)) | (with_reducible exact HA1.out.lim8 (List.mem_cons_of_mem _ List.mem_cons_self)) | (with_reducible exact HA3.out.lim8 (List.mem_cons_of_mem _ List.mem_cons_self)) | (with_reducible exact HZ0.out.lim8 (List.mem_cons_of_mem _ (List.mem_cons_of_mem _ List.mem_cons_self))) | (with_reducible exact HZ1.out.lim8 (List.mem_cons_of_mem _ (List.mem_cons_of_mem _ List.mem_cons_self))) | (with_reducible exact HZ3.out.lim8 (List.mem_cons_of_mem _ (List.mem_cons_of_mem _ List.mem_cons_self))) | (with_reducible exact HZ1b.out.lim8 (List.mem_cons_of_mem _ (List.mem_cons_of_mem _ List.mem_cons_self))) | (with_reducible exact HZ3b.out.lim8 (List.mem_cons_of_mem _ (List.mem_cons_of_mem _ List.mem_cons_self))) | (with_reducible exact (HA3.out.box [.int .u64 g.c, .int .u64 g.su, .int .i64 g.le, .int .i64 g.gr, .slice Ak3 g.bu.length ck3]).lim8 (List.mem_cons_of_mem _ (List.mem_cons_of_mem _ List.mem_cons_self))) | (with_reducible exact (HZ3.out.fill (.int .u64 g.c) (.int .u64 g.su) (.int .i64 g.le) (.int .i64 g.gr) (.slice Ak3 g.bu.length ck3)).lim8 (List.mem_cons_of_mem _ (List.mem_cons_of_mem _ List.mem_cons_self))) | go_keep)
                    (first
                      | (go_at_call 30; (with_reducible refine (Lab.show3 HFE.out HA0.out HP.out).mono ?_); rintro e w1 ⟨Ak1, ck1, rfl, hL⟩; have HA1 := Lib.hid hL; have HZ1b := Lib.hid (hL.box [.int .u64 0, .int .u64 0, .int .i64 0, .int .i64 0, .slice none 0 0]); clear hL)
                      | (go_at_call 30; (with_reducible refine (Lab.show3 HFE.out HZ0.out HP.out).mono ?_); rintro e w1 ⟨Ak1, ck1, rfl, hL⟩; have HZ1 := Lib.hid hL; clear hL)
                      | (go_at_call 25; (with_reducible refine (HMc.out _ _ _ _ _ (HA1.out.held.exts _ (List.mem_cons_of_mem _ (List.mem_cons_of_mem _ (HEn.out _ List.mem_cons_self)))) (HA1.out.held.exts _ (List.mem_cons_self))).mono ?_); rintro e w3 ⟨Ak3, ck3, rfl, hx, hf, hb⟩; have HA3 := Lib.hid (HA1.out.made hb hx hf); have HZ3b := Lib.hid (HA3.out.box [.int .u64 0, .int .u64 0, .int .i64 0, .int .i64 0, .slice none 0 0]); clear hx hf hb)
                      | (go_at_call 25; (with_reducible refine (HMc.out _ _ _ _ _ (HZ1.out.held.exts _ (List.mem_cons_of_mem _ (List.mem_cons_of_mem _ (HEn.out _ List.mem_cons_self)))) (HZ1.out.held.exts _ (List.mem_cons_self))).mono ?_); rintro e w3 ⟨Ak3, ck3, rfl, hx, hf, hb⟩; have HZ3 := Lib.hid (HZ1.out.made hb hx hf); have hzr := HZ3.out.held.rows _ List.mem_cons_self; obtain ⟨y0, y1, y2, y3, y4⟩ := hzr.five; have yf := hzr.free; have yl := hzr.lt; dsimp only at y0 y1 y2 y3 y4 yf yl; clear hzr; clear hx hf hb)
                      | (go_at_call 25; (with_reducible refine (HMc.out _ _ _ _ _ (HZ1b.out.held.exts _ (List.mem_cons_of_mem _ (List.mem_cons_of_mem _ (HEn.out _ List.mem_cons_self)))) (HZ1b.out.held.exts _ (List.mem_cons_self))).mono ?_); rintro e w3 ⟨Ak3, ck3, rfl, hx, hf, hb⟩; have HZ3 := Lib.hid (HZ1b.out.made hb hx hf); have hzr := HZ3.out.held.rows _ List.mem_cons_self; obtain ⟨y0, y1, y2, y3, y4⟩ := hzr.five; have yf := hzr.free; have yl := hzr.lt; dsimp only at y0 y1 y2 y3 y4 yf yl; clear hzr; clear hx hf hb))
                  all_goals
                    go_wp2_with fail
                    go_meet
                    first
                      | exact ⟨_, Ak3, ck3, _, rfl, rfl, (fun x hx => List.mem_cons_of_mem _ hx), HA3.out.box [.int .u64 g.c, .int .u64 g.su, .int .i64 g.le, .int .i64 g.gr, .slice Ak3 g.bu.length ck3]⟩
                      | exact ⟨_, Ak3, ck3, _, rfl, rfl, (fun x hx => List.mem_cons_of_mem _ hx), (HZ3.out.fill (.int .u64 g.c) (.int .u64 g.su) (.int .i64 g.le) (.int .i64 g.gr) (.slice Ak3 g.bu.length ck3))⟩
              case rest =>
                obtain ⟨bk, Ak, nk, esk, rfl, rfl, hek, hL⟩ := hcut
                have HLk := Lib.hid hL
                have HEk := Lib.hid hek
                clear hL hek HA0 HZ0 p0 p1 p2 x0 x1 x2 x3 x4 HLn
                have HA0 := Lib.hid (HLk.out.on ((Below.refl _ _).drew))
                obtain ⟨x0, x1, x2, x3, x4, x5, x6, x7, x8, x9, y0, y1, y2, y3, y4⟩ := HLk.out.lim15
                go_upto_region 24 with fail
                go_region_held3 (fun w' => w'.cell? ⟨bm, 0, none⟩ = some (.int .u64 g.c) ∧ w'.cell? ⟨bm, 1, none⟩ = some (.int .u64 g.su) ∧ w'.cell? ⟨bm, 2, none⟩ = some (.int .i64 g.le) ∧ w'.cell? ⟨bm, 3, none⟩ = some (.int .i64 g.gr) ∧ w'.cell? ⟨bm, 4, none⟩ = some (.slice Am g.bu.length nm) ∧ w'.cell? ⟨bn, 0, none⟩ = some (.int .u64 g.c) ∧ w'.cell? ⟨bn, 1, none⟩ = some (.int .u64 g.su) ∧ w'.cell? ⟨bn, 2, none⟩ = some (.int .i64 g.le) ∧ w'.cell? ⟨bn, 3, none⟩ = some (.int .i64 g.gr) ∧ w'.cell? ⟨bn, 4, none⟩ = some (.slice An g.bu.length nn) ∧ w'.cell? ⟨bk, 0, none⟩ = some (.int .u64 g.c) ∧ w'.cell? ⟨bk, 1, none⟩ = some (.int .u64 g.su) ∧ w'.cell? ⟨bk, 2, none⟩ = some (.int .i64 g.le) ∧ w'.cell? ⟨bk, 3, none⟩ = some (.int .i64 g.gr) ∧ w'.cell? ⟨bk, 4, none⟩ = some (.slice Ak g.bu.length nk))
                  (first | (with_reducible exact HA0.out.lim15) | (with_reducible exact HA1.out.lim15) | (with_reducible exact HA2.out.lim15) | (with_reducible exact HA3.out.lim15) | (with_reducible exact HA4.out.lim15))
                  (first
                    | (go_at_call 30; (with_reducible refine (Lab.show2 HFZ.out HA0.out HP.out).mono ?_); rintro e w1 ⟨Az, cz, rfl, hL⟩; have HA1 := Lib.hid hL; clear hL)
                    | (go_at_call 20; (with_reducible refine (same_yes (xs := g.bu) (HA1.out.held.exts _ (List.mem_cons_of_mem _ (List.mem_cons_of_mem _ (HEk.out _ (List.mem_cons_of_mem _ (HEn.out _ List.mem_cons_self)))))) (HA1.out.held.exts _ List.mem_cons_self) HLG.out).mono ?_); rintro e w2 ⟨rfl, hb⟩; have HA2 := Lib.hid (HA1.out.on hb); clear hb)
                    | (go_at_call 20; (with_reducible refine (same_yes (xs := g.bu) (HA2.out.held.exts _ (List.mem_cons_of_mem _ (List.mem_cons_of_mem _ (HEk.out _ (List.mem_cons_of_mem _ (HEn.out _ List.mem_cons_self)))))) (HA2.out.held.exts _ (List.mem_cons_of_mem _ (List.mem_cons_of_mem _ (HEk.out _ List.mem_cons_self)))) HLG.out).mono ?_); rintro e w3 ⟨rfl, hb⟩; have HA3 := Lib.hid (HA2.out.on hb); clear hb)
                    | (go_at_call 20; (with_reducible refine (same_yes (xs := g.bu) (HA3.out.held.exts _ (List.mem_cons_of_mem _ List.mem_cons_self)) (HA3.out.held.exts _ (List.mem_cons_of_mem _ (List.mem_cons_of_mem _ (HEk.out _ (List.mem_cons_of_mem _ (HEn.out _ List.mem_cons_self)))))) HLG.out).mono ?_); rintro e w4 ⟨rfl, hb⟩; have HA4 := Lib.hid (HA3.out.on hb); clear hb))
                go_wp2_with fail
                go_ret
                exact ⟨rfl, HA4.out.held.low⟩
end Go.Proofs.Ytgmknhogogobjaa
