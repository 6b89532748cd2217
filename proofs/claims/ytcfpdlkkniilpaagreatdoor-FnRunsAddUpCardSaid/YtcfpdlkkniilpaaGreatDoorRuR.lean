/- Chapter 5: binary texts of numbers: the library's walk at base 2. -/
import Derived.Test.YtcfpdlkkniilpaaGreatDoorRuA
import Derived.Test.YtcfpdlkkniilpaaGreatDoorRuQ
import Derived.Laws.BytesString
import Derived.Laws.RangeString
import Derived.Laws.Bits64b
namespace Go.Proofs.YtcfpdlkkniilpaaGreatDoor
open Go.ChangeShapes Go.WideShapes Go.ChangeAt Go.RowKit

/-- The library's table gives 1 at 1. -/
def TabOne (w : World) : Prop := w.cell? ⟨2, 1, none⟩ = some (.int .u8 1)
theorem TabOne.below {w w' : World} {B : Nat} (h : TabOne w) (hb : Below B w w') (hB : 2 < B) : TabOne w' := (hb.cell (p := ⟨2, 1, none⟩) hB).trans h
theorem tz64_two (w : World) (h : TabOne w) : Calls Tryz.prog 106 #[.int .u64 2] w fun e w' => e = .returned (.int .i64 1) ∧ w = w' := by
  unfold TabOne at h
  have q0 : IntKind.u64.wrap (-2) = 18446744073709551614 := by decide
  have q1 : bits BinOp.and IntKind.u64 2 18446744073709551614 = 2 := by decide
  have q2 : IntKind.u64.wrap (2 * 285870213051353865) = 571740426102707730 := by decide
  go_enter Tryz.func106, Tryz.ntmps106
  go_wp2
  go_ret
  exact ⟨rfl, rfl⟩
theorem tz_two (w : World) (h : TabOne w) : Calls Tryz.prog 100 #[.int .u64 2] w fun e w' => e = .returned (.int .i64 1) ∧ w = w' := by
  go_enter Tryz.func100, Tryz.ntmps100
  go_wp2_with (go_at_call 106; refine (tz64_two _ h).mono ?_; rintro e w' ⟨rfl, rfl⟩)
  go_ret
  exact ⟨rfl, rfl⟩
theorem isPow_two (w : World) : Calls Tryz.prog 99 #[.int .i64 2] w fun e w' => e = .returned (.bool true) ∧ w = w' := by
  go_enter Tryz.func99, Tryz.ntmps99
  go_wp2
  go_ret
  exact ⟨rfl, rfl⟩

theorem zero65 (W : World) : (zeroValue 110).run Tryz.prog W = .ok (.agg (Array.replicate 65 (.int .u8 0))) W := by kernel_rfl

theorem conv_writ {w : World} {C : List Value} {m c k cap : Nat} {ns : List Int} (h : Writ C m c ns) (hl : C.length = 65) (hk : k = 65 - m) :
    (convert 22 9 (.slice (some ⟨w.heap.size, m, none⟩) k cap)).run Tryz.prog (w.alloc (.cells C.toArray 110)) = .ok (.string (ns.foldl (fun r n => r.push (UInt8.ofNat n.toNat)) ByteArray.empty)) (w.alloc (.cells C.toArray 110)) := by
  have hd := congrArg List.length h.at_
  simp only [List.length_drop, List.length_map] at hd
  have hc := run_loadCells_list (P := Tryz.prog) (w.alloc (.cells C.toArray 110)) ⟨w.heap.size, m, none⟩ (ns.map (Value.int .u8)) (by
    intro j v hj
    rw [← h.at_, List.getElem?_drop] at hj
    rw [show (⟨w.heap.size, m, none⟩ : Addr).add j = ⟨w.heap.size, m + j, none⟩ by simp [Addr.add], World.cell?_alloc_at _ _ _ _ rfl]
    simpa using hj)
  rw [List.length_map, ← hd, hl, ← hk] at hc
  rw [run_convert_bytes_string _ 22 9 5 _ _ _ Tryz.underlying22 Tryz.underlying5 Tryz.underlying9, run_bytesToString _ _ _ _ ns hc]

theorem slice65 (W : World) (b f : Nat) (hf : f ≤ 13) : (Instr.sliceAt 110 (.pointer (some ⟨b, 0, none⟩)) (some (.int .i64 ((f : Int) + 52 - 1))) none none).run Tryz.prog W = .ok (.slice (some ⟨b, f + 51, none⟩) (65 - (f + 51)) (65 - (f + 51))) W := by
  have hu : Tryz.prog.underlying 110 = some (.array 65 5) := Tryz.underlying110
  have hl : Tryz.prog.arrayLen 110 = 65 := by rw [Program.arrayLen, hu]
  have he : Tryz.prog.elem 110 = 5 := by rw [Program.elem, hu]
  have hs : ∀ W : World, (sizeOf 5).run Tryz.prog W = .ok 1 W := fun W => by kernel_rfl
  have hn : ((f : Int) + 52 - 1).toNat = f + 51 := by omega
  rw [run_sliceAt_array_l W 110 ⟨b, 0, none⟩ (by rw [hl, he]; exact hu) .i64 _ (by omega) (by rw [hl]; omega), he, hs, hl, hn]
  simp only [Result.andThen, slicedAt]
  rw [if_neg (by omega)]
  simp [Addr.add]

set_option maxHeartbeats 3200000 in
theorem formatTwo (u : Nat) (w : World) (hu : u < 2 ^ 13) (hT : TabOne w) (hg : 2 < w.heap.size) :
    Calls Tryz.prog 83 #[.slice none 0 0, .int .u64 u, .int .i64 2, .bool false, .bool false] w fun e w' => ∃ S, e = .returned (.tuple #[.slice none 0 0, .string S]) ∧ Digs S (pcf 13 u) ∧ Below w.heap.size w w' := by
  have HT : ∀ W : World, Hid (Below w.heap.size w W → Calls Tryz.prog 100 #[.int .u64 2] W fun e w' => e = .returned (.int .i64 1) ∧ W = w') := fun W => Lib.hid fun hb => tz_two W (hT.below hb hg)
  have hu2 : u < 8192 := by simpa using hu
  go_enter Tryz.func83, Tryz.ntmps83
  have hz : ∀ W : World, (zeroValue 110).run Tryz.prog W = .ok (.agg (Array.replicate 65 (.int .u8 0))) W := zero65
  go_wp2_with (first
    | (go_at_call 99; refine (isPow_two _).mono ?_; rintro e w' ⟨rfl, rfl⟩)
    | (go_at_call 100; refine ((HT _).out ((Below.refl _ _).alloc (Nat.le_refl _) _)).mono ?_; rintro e w' ⟨rfl, rfl⟩))
  go_loopw [1, 13] (fun x i wr => ∃ (cur f : Nat) (C : List Value) (c : Nat) (ns : List Int), x = .int .u64 cur ∧ i = .int .i64 ((f : Int) + 52) ∧ f ≤ 13 ∧ cur < 2 ^ f ∧ cur < 8192 ∧ Hid (c + pcf f cur = pcf 13 u) ∧ C.length = 65 ∧ Hid (Writ C (f + 52) c ns) ∧ wr = w.alloc (.cells C.toArray 110)) (fun x _ _ => (intOf x).toNat)
  case atStart => exact ⟨u, 13, List.replicate 65 (.int .u8 0), 0, [], rfl, rfl, Nat.le_refl _, hu, hu2, Lib.hid (by omega), by simp, Lib.hid .start, rfl⟩
  case round =>
    obtain ⟨cur, f, C, c, ns, rfl, rfl, hf, hc, hc2, HP, hlen, HW, rfl⟩ := hrel
    have HC := Lib.hid hc
    clear hc
    by_cases hge : 2 ≤ cur
    · have HS := Lib.hid (pcf_step f cur HC.out hge)
      have hf1 : 1 ≤ f := by obtain ⟨g, h1, _⟩ := HS.out; omega
      have hcl : C[f + 51]? = some (C[f + 51]'(by omega)) := List.getElem?_eq_getElem (by omega)
      rcases Nat.mod_two_eq_zero_or_one cur with hm | hm
      · have hb : bits BinOp.and IntKind.u64 (cur : Int) 1 = 0 := by
          have h := bits_and_u64_nat cur 1 (by omega) (by decide)
          rw [Nat.and_one_is_mod, hm] at h
          exact h
        go_wp2
        go_roundw
        case rel =>
          obtain ⟨g, hg1, hg2, hg3⟩ := HS.out
          subst hg1
          refine ⟨cur / 2, g, _, _, _, ?_, ?_, by omega, hg2, by omega, Lib.hid ?_, ?_, Lib.hid (HW.out.put hlen (by omega) 0 (by omega)), ?_⟩
          · simp
          · rw [show ((g + 1 : Nat) : Int) + 52 - 1 = (g : Int) + 52 by omega]
          · have hp := HP.out
            omega
          · rw [List.length_set]; exact hlen
          · rw [show g + 1 + 51 = g + 52 by omega]
            rfl
        case measure => simp [intOf]; omega
      · have hb : bits BinOp.and IntKind.u64 (cur : Int) 1 = 1 := by
          have h := bits_and_u64_nat cur 1 (by omega) (by decide)
          rw [Nat.and_one_is_mod, hm] at h
          exact h
        go_wp2
        go_roundw
        case rel =>
          obtain ⟨g, hg1, hg2, hg3⟩ := HS.out
          subst hg1
          refine ⟨cur / 2, g, _, _, _, ?_, ?_, by omega, hg2, by omega, Lib.hid ?_, ?_, Lib.hid (HW.out.put hlen (by omega) 1 (by omega)), ?_⟩
          · simp
          · rw [show ((g + 1 : Nat) : Int) + 52 - 1 = (g : Int) + 52 by omega]
          · have hp := HP.out
            omega
          · rw [List.length_set]; exact hlen
          · rw [show g + 1 + 51 = g + 52 by omega]
            rfl
        case measure => simp [intOf]; omega
    · have hcl : C[f + 51]? = some (C[f + 51]'(by omega)) := List.getElem?_eq_getElem (by omega)
      have h01 : cur = 0 ∨ cur = 1 := by omega
      rcases h01 with rfl | rfl
      · have hn1 : ∀ W : World, (Instr.sliceAt 110 (.pointer (some ⟨w.heap.size, 0, none⟩)) (some (.int .i64 ((f : Int) + 52 - 1))) none none).run Tryz.prog W = .ok (.slice (some ⟨w.heap.size, f + 51, none⟩) (65 - (f + 51)) (65 - (f + 51))) W := fun W => slice65 W w.heap.size f hf
        have hW2 : Hid (Writ C (f + 51 + 1) c ns) := HW
        have hW3 := Lib.hid (hW2.out.put hlen (by omega) 0 (by omega))
        have hcv : (convert 22 9 (.slice (some ⟨w.heap.size, f + 51, none⟩) (14 - f) (14 - f))).run Tryz.prog (w.alloc (.cells (C.set (f + 51) (.int .u8 (((ByteArray.mk #[48, 49, 50, 51, 52, 53, 54, 55, 56, 57, 97, 98, 99, 100, 101, 102, 103, 104, 105, 106, 107, 108, 109, 110, 111, 112, 113, 114, 115, 116, 117, 118, 119, 120, 121, 122])[0]'(by decide)).toNat : Nat))).toArray 110)) = _ := conv_writ hW3.out (by rw [List.length_set]; exact hlen) (by omega)
        go_wp2
        go_ret2
        have hd := hW3.out.digs (by rw [List.length_set]; exact hlen)
        have hp := HP.out
        rw [pcf_small f 0 HC.out (by omega)] at hp
        rw [hp] at hd
        exact ⟨_, rfl, hd, (Below.refl _ _).alloc (Nat.le_refl _) _⟩
      · have hn1 : ∀ W : World, (Instr.sliceAt 110 (.pointer (some ⟨w.heap.size, 0, none⟩)) (some (.int .i64 ((f : Int) + 52 - 1))) none none).run Tryz.prog W = .ok (.slice (some ⟨w.heap.size, f + 51, none⟩) (65 - (f + 51)) (65 - (f + 51))) W := fun W => slice65 W w.heap.size f hf
        have hW2 : Hid (Writ C (f + 51 + 1) c ns) := HW
        have hW3 := Lib.hid (hW2.out.put hlen (by omega) 1 (by omega))
        have hcv : (convert 22 9 (.slice (some ⟨w.heap.size, f + 51, none⟩) (14 - f) (14 - f))).run Tryz.prog (w.alloc (.cells (C.set (f + 51) (.int .u8 (((ByteArray.mk #[48, 49, 50, 51, 52, 53, 54, 55, 56, 57, 97, 98, 99, 100, 101, 102, 103, 104, 105, 106, 107, 108, 109, 110, 111, 112, 113, 114, 115, 116, 117, 118, 119, 120, 121, 122])[1]'(by decide)).toNat : Nat))).toArray 110)) = _ := conv_writ hW3.out (by rw [List.length_set]; exact hlen) (by omega)
        go_wp2
        go_ret2
        have hd := hW3.out.digs (by rw [List.length_set]; exact hlen)
        have hp := HP.out
        rw [pcf_small f 1 HC.out (by omega)] at hp
        rw [hp] at hd
        exact ⟨_, rfl, hd, (Below.refl _ _).alloc (Nat.le_refl _) _⟩

set_option maxHeartbeats 800000 in
theorem fmt_in (u : Int) (w : World) (h0 : 0 ≤ u) (hu : u < 8192) (hT : TabOne w) (hg : 2 < w.heap.size) :
    Calls Tryz.prog 68 #[.int .i64 u, .int .i64 2] w fun e w' => ∃ S, e = .returned (.string S) ∧ Digs S (pcf 13 u.toNat) ∧ Below w.heap.size w w' := by
  obtain ⟨n, rfl⟩ := Int.eq_ofNat_of_zero_le h0
  have hw : IntKind.u64.wrap (n : Int) = (n : Int) := by rw [IntKind.wrap_u64]; omega
  go_enter Tryz.func68, Tryz.ntmps68
  go_wp2_with (go_at_call 83; refine (formatTwo n _ (by omega) hT hg).mono ?_; rintro e w' ⟨S, rfl, hS, hb⟩)
  go_ret
  exact ⟨S, rfl, hS, hb⟩
theorem fmt_two (u : Int) (w : World) (h0 : 0 ≤ u) (hu : u < 8192) (hT : TabOne w) (hg : 2 < w.heap.size) :
    Calls Tryz.prog 60 #[.int .i64 u, .int .i64 2] w fun e w' => ∃ S, e = .returned (.string S) ∧ Digs S (pcf 13 u.toNat) ∧ Below w.heap.size w w' := by
  go_enter Tryz.func60, Tryz.ntmps60
  go_wp2_with (go_at_call 68; refine (fmt_in u _ h0 hu hT hg).mono ?_; rintro e w' ⟨S, rfl, hS, hb⟩)
  go_ret
  exact ⟨S, rfl, hS, hb⟩
end Go.Proofs.YtcfpdlkkniilpaaGreatDoor
