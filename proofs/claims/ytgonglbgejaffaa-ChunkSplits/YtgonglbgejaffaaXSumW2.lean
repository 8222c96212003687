/- Walks of the digest and what is built on it. -/
import Derived.Test.YtgonglbgejaffaaXSumW1
import Derived.Deep.QuietTactic
import Derived.BigQuiet
import Derived.Lib.SlBytesConst
import Derived.ChangeKeysEq
import Derived.Deep.RegionHeld3
namespace Go.Proofs.Ytgonglbgejaffaa
open Go.RowKit

theorem Row.later {w w' : World} {a : Option Addr} {l : List (BitVec 8)} (hr : Row w a l) (hb : Below w.heap.size w w') : Row w' a l := by
  rcases hr with rfl | ⟨b, off, rfl, hc⟩
  · exact .inl rfl
  · exact .inr ⟨b, off, rfl, fun i hi => cell_later hb (hc i hi)⟩




theorem below_drewN (B : Nat) (w : World) (n : Nat) : Below B w (w.drewN n) := ⟨rfl, rfl, rfl, Nat.le_refl _, fun _ _ => rfl⟩


theorem cells_u8 : Try.prog.cellsOf 5 = 1 := by kernel_rfl
theorem info_u8 : (Try.prog.info? 5).map (fun i => (i.zero, i.size, i.bytes)) = some (some (.int .u8 0), 1, 1) := by kernel_rfl
theorem plain_u8 : Try.prog.plainKey 5 = true := by kernel_rfl

theorem right_val (d : List (BitVec 8)) (s : BitVec 32) (h : d.length = 4) :
    (bt d 0 == (s.toNat : Int) % 256 && (bt d 1 == (s.toNat : Int) / 256 % 256 && (bt d 2 == (s.toNat : Int) / 65536 % 256 && bt d 3 == (s.toNat : Int) / 16777216))) = decide (d = Crc.bytes4 s) := by
  match d, h with
  | [d0, d1, d2, d3], _ =>
    have e0 : ((s.setWidth 8).toNat : Int) = (s.toNat : Int) % 256 := by rw [BitVec.toNat_setWidth]; omega
    have e1 : (((s >>> 8).setWidth 8).toNat : Int) = (s.toNat : Int) / 256 % 256 := by rw [BitVec.toNat_setWidth, BitVec.toNat_ushiftRight, Nat.shiftRight_eq_div_pow]; omega
    have e2 : (((s >>> 16).setWidth 8).toNat : Int) = (s.toNat : Int) / 65536 % 256 := by rw [BitVec.toNat_setWidth, BitVec.toNat_ushiftRight, Nat.shiftRight_eq_div_pow]; omega
    have e3 : (((s >>> 24).setWidth 8).toNat : Int) = (s.toNat : Int) / 16777216 := by rw [BitVec.toNat_setWidth, BitVec.toNat_ushiftRight, Nat.shiftRight_eq_div_pow]; have := s.isLt; omega
    rw [← e0, ← e1, ← e2, ← e3, Bool.eq_iff_iff]
    simp only [bt, Crc.bytes4, Bool.and_eq_true, beq_iff_eq, decide_eq_true_eq, List.cons.injEq, and_true, List.getD_cons_zero, List.getD_cons_succ, Int.natCast_inj, BitVec.toNat_inj]



/-- bytes as a string -/
def str (l : List (BitVec 8)) : ByteArray := strOfNums (l.map fun c => (c.toNat : Int))
theorem str_inj (a b : List (BitVec 8)) : ((str a).toList == (str b).toList) = decide (a = b) := by
  rw [ByteArray.toList_eq, ByteArray.toList_eq]
  unfold str
  rw [strOfNums_data, strOfNums_data, List.map_map, List.map_map, Bool.eq_iff_iff]
  simp only [beq_iff_eq, decide_eq_true_eq]
  constructor
  · intro h
    refine List.map_inj_right (f := (fun n : Int => UInt8.ofNat n.toNat) ∘ fun c : BitVec 8 => (c.toNat : Int)) ?_ |>.1 h
    intro x y hxy
    simp only [Function.comp, Int.toNat_natCast] at hxy
    have h2 := congrArg UInt8.toNat hxy
    rw [UInt8.toNat_ofNat', UInt8.toNat_ofNat', Nat.mod_eq_of_lt x.isLt, Nat.mod_eq_of_lt y.isLt] at h2
    exact BitVec.eq_of_toNat_eq h2
  · intro h; rw [h]

/-- bytes that lie in memory, as a string -/
theorem Row.str {w : World} {a : Option Addr} {l : List (BitVec 8)} (hr : Row w a l) (len cap : Nat) (hl : l.length = len) :
    (convert 22 9 (.slice a len cap)).run Try.prog w = .ok (.string (str l)) w := by
  have hu : Try.prog.underlying 9 = some .string := Try.underlying9
  rcases hr with rfl | ⟨b, off, rfl, hc⟩
  · simp at hl
    subst hl
    cases a with
    | none => exact run_convert_bytes_nil w _ _ Try.underlying22 Try.underlying5 0 cap _ hu
    | some a =>
      rw [run_convert_bytes_string w _ _ _ _ 0 cap Try.underlying22 Try.underlying5 hu, run_bytesToString w _ 0 cap [] (by have := run_loadCells_list (P := Try.prog) w a [] (by simp); simpa using this), foldl_push_bytes]
      rfl
  · exact run_convert_bytes_arg w _ _ Try.underlying22 Try.underlying5 b off len cap (l.map fun c => (c.toNat : Int)) (by simpa using hl)
      (fun i hi => by rw [hc i (by omega)]; unfold bt; rw [List.getD, List.getD, List.getElem?_map, List.getElem?_eq_getElem (by omega)]; rfl) _ hu

/-- a block that was laid just now -/
theorem Row.new (w : World) (C : Array Value) (t : TypeId) (fr : Nat × Nat) (l : List (BitVec 8)) (h : ∀ i, i < l.length → C[i]? = some (.int .u8 (bt l i))) :
    Row (w.alloc (.cells C t fr)) (some ⟨w.heap.size, 0, none⟩) l :=
  .inr ⟨_, _, rfl, fun i hi => by rw [Nat.zero_add, World.cell?_alloc_mark, h i hi]⟩

theorem Row.newl (w : World) (C : Array Value) (t : TypeId) (fr : Nat × Nat) (l : List (BitVec 8)) (h : C.toList = l.map fun c => Value.int .u8 (c.toNat : Int)) :
    Row (w.alloc (.cells C t fr)) (some ⟨w.heap.size, 0, none⟩) l :=
  Row.new w C t fr l fun i hi => by
    rw [← Array.getElem?_toList, h, List.getElem?_map, List.getElem?_eq_getElem hi]; unfold bt; rw [List.getD, List.getElem?_eq_getElem hi]; rfl
theorem heap_new (w : World) (o : Obj) (n : Nat) (h : n = w.heap.size) : (w.alloc o).heap[n]? = some o := by
  subst h
  show (w.heap.push o)[w.heap.size]? = _
  simp

theorem bytes4_bt (s : BitVec 32) : bt (Crc.bytes4 s) 0 = (s.toNat : Int) % 256 ∧ bt (Crc.bytes4 s) 1 = (s.toNat : Int) / 256 % 256 ∧ bt (Crc.bytes4 s) 2 = (s.toNat : Int) / 65536 % 256 ∧ bt (Crc.bytes4 s) 3 = (s.toNat : Int) / 16777216 := by
  have h := right_val (Crc.bytes4 s) s rfl
  simp only [decide_true, Bool.and_eq_true, beq_iff_eq] at h
  exact ⟨h.1, h.2.1, h.2.2.1, h.2.2.2⟩



theorem make32 (w : World) : (Instr.makeSlice 22 (.int .i64 32) (.int .i64 32)).run Try.prog w = .ok (.slice (some ⟨w.heap.size, 0, none⟩) 32 32) (w.alloc (.cells (Array.replicate 32 (.int .u8 0)) 5)) := by kernel_rfl
theorem sum_123 : Crc.sum [49#8, 50#8, 51#8, 52#8, 53#8, 54#8, 55#8, 56#8, 57#8] = 0xe3069283#32 := by decide +kernel
theorem sum_zeros : Crc.sum (List.replicate 32 0#8) = 0x8a9136aa#32 := by decide +kernel


end Go.Proofs.Ytgonglbgejaffaa

