/- Walks of the digest and what is built on it. -/
import Derived.Test.YtfcaaljehhibgaaXSumW1
import Derived.Deep.QuietTactic
import Derived.BigQuiet
import Derived.Lib.SlBytesConst
import Derived.ChangeKeysEq
import Derived.Deep.RegionHeld3
namespace Go.Proofs.Ytfcaaljehhibgaa
open Go.RowKit

theorem Row.later {w w' : World} {a : Option Addr} {l : List (BitVec 8)} (hr : Row w a l) (hb : Below w.heap.size w w') : Row w' a l := by
  rcases hr with rfl | ⟨b, off, rfl, hc⟩
  · exact .inl rfl
  · exact .inr ⟨b, off, rfl, fun i hi => cell_later hb (hc i hi)⟩

/-- a digest's block -/
def DG (s : BitVec 32) : Obj := .cells #[.int .u8 ((s.toNat : Int) % 256), .int .u8 ((s.toNat : Int) / 256 % 256), .int .u8 ((s.toNat : Int) / 65536 % 256), .int .u8 ((s.toNat : Int) / 16777216)] 99

set_option maxHeartbeats 400000 in
theorem digest_any (a : Option Addr) (len cap : Nat) (l : List (BitVec 8)) (w : World) (hl : l.length = len) (hm : len ≤ maxLen) (hr : Row w a l) :
    Calls Try.prog 56 #[.slice a len cap] w fun e w' => e = .returned (.agg #[.int .u8 (((Crc.sum l).toNat : Int) % 256), .int .u8 (((Crc.sum l).toNat : Int) / 256 % 256), .int .u8 (((Crc.sum l).toNat : Int) / 65536 % 256), .int .u8 (((Crc.sum l).toNat : Int) / 16777216)]) ∧ (w.alloc (DG (Crc.sum l))).alloc (DG (Crc.sum l)) = w' := by
  go_enter Try.func56, Try.ntmps56
  go_wp2_with fail
  refine (sum_any a len cap l _ hl hm (hr.later (((Below.refl _ _).alloc (Nat.le_refl _) _).alloc (by simp) _))).mono ?_
  rintro e w' ⟨rfl, rfl⟩
  go_wp2_with fail
  refine wp_loop_rounds 5 ?_
  rw [rounds_succ]; go_wp2
  rw [rounds_succ]; go_wp2
  rw [rounds_succ]; go_wp2
  rw [rounds_succ]; go_wp2
  rw [rounds_succ]; go_wp2
  exact bodyPost_ret (v := .agg #[.int .u8 (((Crc.sum l).toNat : Int) % 256), .int .u8 (((Crc.sum l).toNat : Int) / 256 % 256), .int .u8 (((Crc.sum l).toNat : Int) / 65536 % 256), .int .u8 (((Crc.sum l).toNat : Int) / 16777216)]) (by simp [results, Try.results56, go_sem]) rfl ⟨rfl, rfl⟩

set_option maxHeartbeats 400000 in
theorem Digest_any (a : Option Addr) (len cap : Nat) (l : List (BitVec 8)) (w : World) (hl : l.length = len) (hm : len ≤ maxLen) (hr : Row w a l) :
    Calls Try.prog 40 #[.slice a len cap] w fun e w' => e = .returned (.slice (some ⟨w.heap.size + 2, 0, none⟩) 4 4) ∧ ((w.alloc (DG (Crc.sum l))).alloc (DG (Crc.sum l))).alloc (DG (Crc.sum l)) = w' := by
  go_enter Try.func40, Try.ntmps40
  go_wp2_with fail
  refine (digest_any a len cap l _ hl hm hr).mono ?_
  rintro e w' ⟨rfl, rfl⟩
  go_wp2
  go_ret
  exact ⟨rfl, rfl⟩

theorem below_drewN (B : Nat) (w : World) (n : Nat) : Below B w (w.drewN n) := ⟨rfl, rfl, rfl, Nat.le_refl _, fun _ _ => rfl⟩

set_option maxHeartbeats 400000 in
theorem Right_no (a : Option Addr) (len cap : Nat) (ad : Option Addr) (dlen dcap : Nat) (w : World) (h : dlen ≠ 4) :
    Calls Try.prog 59 #[.slice a len cap, .slice ad dlen dcap] w fun e w' => e = .returned (.bool false) ∧ Below w.heap.size w w' := by
  have hd : ((dlen : Int) == 4) = false := by simp; omega
  go_enter Try.func59, Try.ntmps59
  go_wp2
  go_quiet (fail)
  go_wp2
  go_ret
  exact ⟨rfl, below_drewN _ _ _⟩

theorem cells_u8 : Try.prog.cellsOf 5 = 1 := by kernel_rfl
theorem info_u8 : (Try.prog.info? 5).map (fun i => (i.zero, i.size, i.bytes)) = some (some (.int .u8 0), 1, 1) := by kernel_rfl
theorem plain_u8 : Try.prog.plainKey 5 = true := by kernel_rfl
/-- four bytes and four bytes -/
theorem eq4 (a0 a1 a2 a3 b0 b1 b2 b3 : Int) (w : World) :
    Sem.run Try.prog (Op.equalIn 10000 99 (.agg #[.int .u8 a0, .int .u8 a1, .int .u8 a2, .int .u8 a3]) (.agg #[.int .u8 b0, .int .u8 b1, .int .u8 b2, .int .u8 b3])) w
      = .ok (a0 == b0 && (a1 == b1 && (a2 == b2 && a3 == b3))) w := by
  obtain ⟨i, hi, -, -, -⟩ := info_parts info_u8
  rw [run_equalIn_array w 9999 (e := 5) (n := 4) (i := i) _ _ (by kernel_rfl) hi, cells_u8]
  have he : ∀ a b : Int, Sem.run Try.prog (Op.equalIn 9999 5 (.int .u8 a) (.int .u8 b)) w = .ok (a == b) w := fun a b => run_equalIn_int w 9998 5 .u8 .u8 a b Try.underlying5
  have h0 : ∀ v0 v1 v2 v3 : Value, Sem.run Try.prog (part 5 #[v0, v1, v2, v3] (0 * 1)) w = .ok v0 w := fun _ _ _ _ => run_part_plain w plain_u8 rfl
  have h1 : ∀ v0 v1 v2 v3 : Value, Sem.run Try.prog (part 5 #[v0, v1, v2, v3] (1 * 1)) w = .ok v1 w := fun _ _ _ _ => run_part_plain w plain_u8 rfl
  have h2 : ∀ v0 v1 v2 v3 : Value, Sem.run Try.prog (part 5 #[v0, v1, v2, v3] (2 * 1)) w = .ok v2 w := fun _ _ _ _ => run_part_plain w plain_u8 rfl
  have h3 : ∀ v0 v1 v2 v3 : Value, Sem.run Try.prog (part 5 #[v0, v1, v2, v3] (3 * 1)) w = .ok v3 w := fun _ _ _ _ => run_part_plain w plain_u8 rfl
  show Sem.run Try.prog (Op.eqItems 9999 5 1 _ _ [0, 1, 2, 3]) w = _
  simp only [Op.eqItems, Sem.run_bind, h0, he, Result.andThen_ok]
  cases (a0 == b0)
  · simp
  simp only [Sem.run_bind, h1, he, Result.andThen_ok, Bool.not_true, Bool.false_eq_true, if_false, Bool.true_and]
  cases (a1 == b1)
  · simp
  simp only [Sem.run_bind, h2, he, Result.andThen_ok, Bool.not_true, Bool.false_eq_true, if_false, Bool.true_and]
  cases (a2 == b2)
  · simp
  simp only [Sem.run_bind, h3, he, Result.andThen_ok, Bool.not_true, Bool.false_eq_true, if_false, Bool.true_and]
  cases (a3 == b3) <;> simp

theorem right_val (d : List (BitVec 8)) (s : BitVec 32) (h : d.length = 4) :
    (bt d 0 == (s.toNat : Int) % 256 && (bt d 1 == (s.toNat : Int) / 256 % 256 && (bt d 2 == (s.toNat : Int) / 65536 % 256 && bt d 3 == (s.toNat : Int) / 16777216))) = decide (d = Crc.bytes4 s) := by
  match d, h with
  | [d0, d1, d2, d3], _ =>
    have e0 : ((s.setWidth 8).toNat : Int) = (s.toNat : Int) % 256 := by rw [BitVec.toNat_setWidth]; omega
    have e1 : (((s >>> 8).setWidth 8).toNat : Int) = (s.toNat : Int) / 256 % 256 := by rw [BitVec.toNat_setWidth, BitVec.toNat_ushiftRight, Nat.shiftRight_eq_div_pow]; omega
    have e2 : (((s >>> 16).setWidth 8).toNat : Int) = (s.toNat : Int) / 65536 % 256 := by rw [BitVec.toNat_setWidth, BitVec.toNat_ushiftRight, Nat.shiftRight_eq_div_pow]; omega
    have e3 : (((s >>> 24).setWidth 8).toNat : Int) = (s.toNat : Int) / 16777216 := by rw [BitVec.toNat_setWidth, BitVec.toNat_ushiftRight, Nat.shiftRight_eq_div_pow]; have := s.isLt; omega
    rw [← e0, ← e1, ← e2, ← e3, Bool.eq_iff_iff]
    simp only [bt, Crc.bytes4, Bool.and_eq_true, beq_iff_eq, decide_eq_true_eq, List.cons.injEq, and_true, List.getD_cons_zero, List.getD_cons_succ, Int.natCast_inj, BitVec.toNat_inj]

theorem arrayAt4 (b off dcap : Nat) (w : World) : Sem.run Try.prog (Instr.arrayAt 99 (.slice (some ⟨b, off, none⟩) 4 dcap)) w = .ok (.pointer (some ⟨b, off, none⟩)) w := by kernel_rfl

set_option maxHeartbeats 400000 in
theorem Right_yes (a : Option Addr) (len cap : Nat) (l : List (BitVec 8)) (b off : Nat) (dcap : Nat) (d : List (BitVec 8)) (w : World) (hl : l.length = len) (hm : len ≤ maxLen) (hr : Row w a l)
    (hd : d.length = 4) (hdr : ∀ i, i < d.length → w.cell? ⟨b, off + i, none⟩ = some (.int .u8 (bt d i))) :
    Calls Try.prog 59 #[.slice a len cap, .slice (some ⟨b, off, none⟩) 4 dcap] w fun e w' => e = .returned (.bool (decide (d = Crc.bytes4 (Crc.sum l)))) ∧ Below w.heap.size w w' := by
  have c0 := hdr 0 (by omega)
  have c1 := hdr 1 (by omega)
  have c2 := hdr 2 (by omega)
  have c3 := hdr 3 (by omega)
  rw [Nat.add_zero] at c0
  clear hdr
  have hat := arrayAt4 b off dcap
  have heq := eq4
  go_enter Try.func59, Try.ntmps59
  go_wp2_with fail
  go_region_held3 (fun w' => w'.cell? ⟨b, off, none⟩ = some (.int .u8 (bt d 0)) ∧ w'.cell? ⟨b, off + 1, none⟩ = some (.int .u8 (bt d 1)) ∧ w'.cell? ⟨b, off + 2, none⟩ = some (.int .u8 (bt d 2)) ∧ w'.cell? ⟨b, off + 3, none⟩ = some (.int .u8 (bt d 3)))
    (exact ⟨cell_later (by repeat (first | exact Below.refl _ _ | refine Below.drew ?_ | refine Below.alloc ?_ (by simp) _)) c0, cell_later (by repeat (first | exact Below.refl _ _ | refine Below.drew ?_ | refine Below.alloc ?_ (by simp) _)) c1, cell_later (by repeat (first | exact Below.refl _ _ | refine Below.drew ?_ | refine Below.alloc ?_ (by simp) _)) c2, cell_later (by repeat (first | exact Below.refl _ _ | refine Below.drew ?_ | refine Below.alloc ?_ (by simp) _)) c3⟩)
    (first | (go_at_call 56; refine (digest_any a len cap l _ hl hm (hr.later (by repeat (first | exact Below.refl _ _ | refine Below.drew ?_)))).mono ?_; rintro e w' ⟨rfl, rfl⟩))
  all_goals
    go_wp2
    go_ret
    exact ⟨ret_bool (right_val d _ hd), ((((Below.refl _ _).alloc (Nat.le_refl _) _).alloc (by simp) _)).drew⟩

/-- bytes as a string -/
def str (l : List (BitVec 8)) : ByteArray := strOfNums (l.map fun c => (c.toNat : Int))
theorem str_inj (a b : List (BitVec 8)) : ((str a).toList == (str b).toList) = decide (a = b) := by
  rw [ByteArray.toList_eq, ByteArray.toList_eq]
  unfold str
  rw [strOfNums_data, strOfNums_data, List.map_map, List.map_map, Bool.eq_iff_iff]
  simp only [beq_iff_eq, decide_eq_true_eq]
  constructor
  · intro h
    refine List.map_inj_right (f := (fun n : Int => UInt8.ofNat n.toNat) ∘ fun c : BitVec 8 => (c.toNat : Int)) ?_ |>.1 h
    intro x y hxy
    simp only [Function.comp, Int.toNat_natCast] at hxy
    have h2 := congrArg UInt8.toNat hxy
    rw [UInt8.toNat_ofNat', UInt8.toNat_ofNat', Nat.mod_eq_of_lt x.isLt, Nat.mod_eq_of_lt y.isLt] at h2
    exact BitVec.eq_of_toNat_eq h2
  · intro h; rw [h]

/-- bytes that lie in memory, as a string -/
theorem Row.str {w : World} {a : Option Addr} {l : List (BitVec 8)} (hr : Row w a l) (len cap : Nat) (hl : l.length = len) :
    (convert 34 9 (.slice a len cap)).run Try.prog w = .ok (.string (str l)) w := by
  have hu : Try.prog.underlying 9 = some .string := Try.underlying9
  rcases hr with rfl | ⟨b, off, rfl, hc⟩
  · simp at hl
    subst hl
    cases a with
    | none => exact run_convert_bytes_nil w _ _ Try.underlying34 Try.underlying5 0 cap _ hu
    | some a =>
      rw [run_convert_bytes_string w _ _ _ _ 0 cap Try.underlying34 Try.underlying5 hu, run_bytesToString w _ 0 cap [] (by have := run_loadCells_list (P := Try.prog) w a [] (by simp); simpa using this), foldl_push_bytes]
      rfl
  · exact run_convert_bytes_arg w _ _ Try.underlying34 Try.underlying5 b off len cap (l.map fun c => (c.toNat : Int)) (by simpa using hl)
      (fun i hi => by rw [hc i (by omega)]; unfold bt; rw [List.getD, List.getD, List.getElem?_map, List.getElem?_eq_getElem (by omega)]; rfl) _ hu

/-- a block that was laid just now -/
theorem Row.new (w : World) (C : Array Value) (t : TypeId) (fr : Nat × Nat) (l : List (BitVec 8)) (h : ∀ i, i < l.length → C[i]? = some (.int .u8 (bt l i))) :
    Row (w.alloc (.cells C t fr)) (some ⟨w.heap.size, 0, none⟩) l :=
  .inr ⟨_, _, rfl, fun i hi => by rw [Nat.zero_add, World.cell?_alloc_mark, h i hi]⟩

theorem Row.newl (w : World) (C : Array Value) (t : TypeId) (fr : Nat × Nat) (l : List (BitVec 8)) (h : C.toList = l.map fun c => Value.int .u8 (c.toNat : Int)) :
    Row (w.alloc (.cells C t fr)) (some ⟨w.heap.size, 0, none⟩) l :=
  Row.new w C t fr l fun i hi => by
    rw [← Array.getElem?_toList, h, List.getElem?_map, List.getElem?_eq_getElem hi]; unfold bt; rw [List.getD, List.getElem?_eq_getElem hi]; rfl
theorem heap_new (w : World) (o : Obj) (n : Nat) (h : n = w.heap.size) : (w.alloc o).heap[n]? = some o := by
  subst h
  show (w.heap.push o)[w.heap.size]? = _
  simp

theorem bytes4_bt (s : BitVec 32) : bt (Crc.bytes4 s) 0 = (s.toNat : Int) % 256 ∧ bt (Crc.bytes4 s) 1 = (s.toNat : Int) / 256 % 256 ∧ bt (Crc.bytes4 s) 2 = (s.toNat : Int) / 65536 % 256 ∧ bt (Crc.bytes4 s) 3 = (s.toNat : Int) / 16777216 := by
  have h := right_val (Crc.bytes4 s) s rfl
  simp only [decide_true, Bool.and_eq_true, beq_iff_eq] at h
  exact ⟨h.1, h.2.1, h.2.2.1, h.2.2.2⟩

theorem DG_row (w : World) (s : BitVec 32) : Row (w.alloc (DG s)) (some ⟨w.heap.size, 0, none⟩) (Crc.bytes4 s) := by
  obtain ⟨h0, h1, h2, h3⟩ := bytes4_bt s
  refine Row.new w _ _ _ _ ?_
  intro i hi
  match i, hi with
  | 0, _ => rw [h0]; rfl
  | 1, _ => rw [h1]; rfl
  | 2, _ => rw [h2]; rfl
  | 3, _ => rw [h3]; rfl

/-- the digest of bytes, in new memory -/
theorem Digest_row (a : Option Addr) (len cap : Nat) (l : List (BitVec 8)) (w : World) (hl : l.length = len) (hm : len ≤ maxLen) (hr : Row w a l) :
    Calls Try.prog 40 #[.slice a len cap] w fun e w' => ∃ B, e = .returned (.slice (some ⟨B, 0, none⟩) 4 4) ∧ w.heap.size ≤ B ∧ B < w'.heap.size ∧ Below w.heap.size w w' ∧ Row w' (some ⟨B, 0, none⟩) (Crc.bytes4 (Crc.sum l)) ∧ w'.heap[B]? = some (DG (Crc.sum l)) := by
  refine (Digest_any a len cap l w hl hm hr).mono ?_
  rintro e w' ⟨rfl, rfl⟩
  refine ⟨w.heap.size + 2, rfl, by omega, by simp, ((((Below.refl _ _).alloc (Nat.le_refl _) _).alloc (by simp) _).alloc (by simp; omega) _), ?_, ?_⟩
  · have := DG_row ((w.alloc (DG (Crc.sum l))).alloc (DG (Crc.sum l))) (Crc.sum l)
    simpa using this
  · exact heap_new _ _ _ (by simp)

theorem make32 (w : World) : (Instr.makeSlice 34 (.int .i64 32) (.int .i64 32)).run Try.prog w = .ok (.slice (some ⟨w.heap.size, 0, none⟩) 32 32) (w.alloc (.cells (Array.replicate 32 (.int .u8 0)) 5)) := by kernel_rfl
theorem sum_123 : Crc.sum [49#8, 50#8, 51#8, 52#8, 53#8, 54#8, 55#8, 56#8, 57#8] = 0xe3069283#32 := by decide +kernel
theorem sum_zeros : Crc.sum (List.replicate 32 0#8) = 0x8a9136aa#32 := by decide +kernel


end Go.Proofs.Ytfcaaljehhibgaa

