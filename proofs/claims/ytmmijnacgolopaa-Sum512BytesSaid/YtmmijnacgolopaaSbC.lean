/- constants. -/
import Derived.Test.YtmmijnacgolopaaSbP
import Derived.Test.YtmmijnacgolopaaSb8
import Derived.BigRegion
namespace Go.Proofs.Ytmmijnacgolopaa
open Go.RowKit
theorem results_cell2_row {P : Program} {fn : Func} {p q : Tmp} {tp tq : TypeId} (h : fn.results = #[.cell p tp, .cell q tq]) (tmps : Array Value) (w : World) (g k : Nat) (t u : TypeId) (cs ds : Array Value) (d e : TypeDesc)
    (hp : tmps.getD p undef = .pointer (some ⟨g, 0, none⟩)) (hq : tmps.getD q undef = .pointer (some ⟨k, 0, none⟩)) (hg : Blk w g t cs) (hk : Blk w k u ds)
    (hu : P.underlying tp = some d) (hd : (match d with | .struct _ | .array _ _ => true | _ => false) = true) (hi : (P.info? tp).map (·.size) = some cs.size)
    (hv : P.underlying tq = some e) (he : (match e with | .struct _ | .array _ _ => true | _ => false) = true) (hj : (P.info? tq).map (·.size) = some ds.size) :
    (results fn tmps).run P w = .ok (.tuple #[.agg cs, .agg ds]) w := by
  have hp' : tmps[p]?.getD undef = .pointer (some ⟨g, 0, none⟩) := by simpa using hp
  have hq' : tmps[q]?.getD undef = .pointer (some ⟨k, 0, none⟩) := by simpa using hq
  simp [results, h, hp', hq', asAddr, run_loadVar_row w g t tp cs (0, 0) d hg hu hd hi, run_loadVar_row w k u tq ds (0, 0) e hk hv he hj]
def firstL : List Nat := [7640891576956012808, 13503953896175478587, 4354685564936845355, 11912009170470909681, 5840696475078001361, 11170449401992604703, 2270897969802886507, 6620516959819538809]
def keysL : List Nat := [4794697086780616226, 8158064640168781261, 13096744586834688815, 16840607885511220156, 4131703408338449720, 6480981068601479193, 10538285296894168987, 12329834152419229976, 15566598209576043074, 1334009975649890238, 2608012711638119052, 6128411473006802146, 8268148722764581231, 9286055187155687089, 11230858885718282805, 13951009754708518548, 16472876342353939154, 17275323862435702243, 1135362057144423861, 2597628984639134821, 3308224258029322869, 5365058923640841347, 6679025012923562964, 8573033837759648693, 10970295158949994411, 12119686244451234320, 12683024718118986047, 13788192230050041572, 14330467153632333762, 15395433587784984357, 489312712824947311, 1452737877330783856, 2861767655752347644, 3322285676063803686, 5560940570517711597, 5996557281743188959, 7280758554555802590, 8532644243296465576, 9350256976987008742, 10552545826968843579, 11727347734174303076, 12113106623233404929, 14000437183269869457, 14369950271660146224, 15101387698204529176, 15463397548674623760, 17586052441742319658, 1182934255886127544, 1847814050463011016, 2177327727835720531, 2830643537854262169, 3796741975233480872, 4115178125766777443, 5681478168544905931, 6601373596472566643, 7507060721942968483, 8399075790359081724, 8693463985226723168, 9568029438360202098, 10144078919501101548, 10430055236837252648, 11840083180663258601, 13761210420658862357, 14299343276471374635, 14566680578165727644, 15097957966210449927, 16922976911328602910, 17689382322260857208, 500013540394364858, 748580250866718886, 1242879168328830382, 1977374033974150939, 2944078676154940804, 3659926193048069267, 4368137639120453308, 4836135668995329356, 5532061633213252278, 6448918945643986474, 6902733635092675308, 7801388544844847127]
def firstC (i : Nat) : BitVec 64 := litw 64 (firstL.getD i 0)
def keysC (i : Nat) : BitVec 64 := litw 64 (keysL.getD i 0)
theorem first_ok : ∀ i, i < 8 → rootS (litw 64 (pr i)) 0 = some (firstC i) := by decide +kernel
theorem keys_ok : ∀ i, i < 80 → rootS (litw 64 (pr i)) 1 = some (keysC i) := by decide +kernel
def upto (j : Nat) (f : Nat → BitVec 64) (i : Nat) : BitVec 64 := if i < j then f i else litw 64 0
structure CW (w : World) (b : Nat) (f k : Nat → BitVec 64) (wr : World) : Prop where
  f : Blk wr w.heap.size 43 (r64 8 f)
  k : Blk wr (w.heap.size + 1) 42 (r64 80 k)
  l : Blk wr b 42 (r64 80 fun i => litw 64 (pr i))
  o : Below w.heap.size w wr
  lt : w.heap.size + 1 < b
section
variable {w wr : World} {bl j : Nat} {f k : Nat → BitVec 64}
theorem upto_step (f : Nat → BitVec 64) (n j i : Nat) (v : BitVec 64) (hv : v = f j) (_h : i < n) : (if i = j then Value.int .u64 (iw v) else .int .u64 (iw (upto j f i))) = .int .u64 (iw (upto (j + 1) f i)) := by
  by_cases h1 : i = j
  · subst h1; simp [upto, hv]
  · by_cases h2 : i < j
    · simp [upto, h1, h2, Nat.lt_succ_of_lt h2]
    · simp [upto, h1, h2, show ¬ i < j + 1 by omega]
theorem CW.putF (h : CW w bl (upto j f) k wr) (hj : j < 8) (v : BitVec 64) (hv : v = f j) : CW w bl (upto (j + 1) f) k (wr.setCell ⟨w.heap.size, j, none⟩ (.int .u64 (iw v))) :=
  ⟨(h.f.put hj _).cast_ (row_ext fun i hi => upto_step f 8 j i v hv hi), h.k.far (by simp) _, h.l.far (by have := h.lt; simp; omega) _, h.o.setCell (by simp) _, h.lt⟩
theorem CW.putK (h : CW w bl f (upto j k) wr) (hj : j < 80) (v : BitVec 64) (hv : v = k j) : CW w bl f (upto (j + 1) k) (wr.setCell ⟨w.heap.size + 1, j, none⟩ (.int .u64 (iw v))) :=
  ⟨h.f.far (by simp) _, (h.k.put hj _).cast_ (row_ext fun i hi => upto_step k 80 j i v hv hi), h.l.far (by have := h.lt; simp; omega) _, h.o.setCell (by simp) _, h.lt⟩
end
theorem root2 (p R : BitVec 64) (w : World) (h : rootS p 0 = some R) :
    Calls Try.prog 26 #[.int .u64 (iw p), .int .i64 2] w fun e w' => e = .returned (.int .u64 (iw R)) ∧ Below w.heap.size w w' := root_any p 0 R w (by omega) h
theorem root3 (p R : BitVec 64) (w : World) (h : rootS p 1 = some R) :
    Calls Try.prog 26 #[.int .u64 (iw p), .int .i64 3] w fun e w' => e = .returned (.int .u64 (iw R)) ∧ Below w.heap.size w w' := root_any p 1 R w (by omega) h
theorem zero8 : #[Value.int .u64 0, .int .u64 0, .int .u64 0, .int .u64 0, .int .u64 0, .int .u64 0, .int .u64 0, .int .u64 0] = r64 8 fun _ => litw 64 0 := by simp only [r64, iw_zero]; rfl
theorem CW.below {w wr w' : World} {bl : Nat} {f k : Nat → BitVec 64} (h : CW w bl f k wr) (hb : Below wr.heap.size wr w') : CW w bl f k w' :=
  ⟨h.f.below hb h.f.lt, h.k.below hb h.k.lt, h.l.below hb h.l.lt, h.o.trans (hb.mono h.o.size), h.lt⟩
set_option maxRecDepth 100000 in
set_option maxHeartbeats 2000000 in
theorem constants_any (w : World) :
    Calls Try.prog 18 #[] w fun e w' => e = .returned (.tuple #[.agg (r64 8 firstC), .agg (r64 80 keysC)]) ∧ Below w.heap.size w w' := by
  have hsz : (Try.prog.info? 42).map (·.size) = some (r64 80 fun i => litw 64 (pr i)).size := by rw [row_size]; kernel_rfl
  have hzw := zeroW
  go_enter Try.func18, Try.ntmps18
  go_wp2_with (first
    | (go_at_call 25; refine (primes_any _).mono ?_; rintro e w1 ⟨rfl, hb1⟩)
    | (refine wpList_store_row rfl 42 _ _ rfl w1.heap.size (r64 80 fun i => litw 64 (pr i)) rfl rfl 42 (r64 80 fun _ => litw 64 0) (Blk.new w1 _ _) hsz (by rw [row_size, row_size]) (row_one fun _ => rfl) ?_)
    | fail)
  clear hsz
  have hs1 : w.heap.size + 1 < w1.heap.size := by have := hb1.size; simp at this; omega
  refine wp_gen (CW w w1.heap.size (upto 0 firstC) (upto 0 keysC)) ?_ (fun w2 hw2 => ?_)
  · have h0 : Blk w1 w.heap.size 43 (r64 8 fun _ => litw 64 0) := (((Blk.new w _ _).alloc _).below hb1 (by simp; omega)).cast_ zero8
    have h1 : Blk w1 (w.heap.size + 1) 42 (r64 80 fun _ => litw 64 0) := (((Blk.new (w.alloc _) _ _).cast' ⟨by simp, rfl⟩).below hb1 (by simp))
    refine ⟨?_, ?_, ?_, ?_, hs1⟩
    · exact ((h0.alloc _).row_far (by omega) _).cast_ (row_ext fun i _ => by simp [upto])
    · exact ((h1.alloc _).row_far (by omega) _).cast_ (row_ext fun i _ => by simp [upto])
    · exact (Blk.new w1 _ _).row_ _
    · exact below_setRow' ((((Below.refl w.heap.size w).alloc (by omega) _).alloc (by simp) _).trans (hb1.mono (by simp; omega)) |>.alloc (by omega) _) (by omega) _
  clear hb1 hs1 hzw
  generalize w1.heap.size = bl at hw2 ⊢
  go_loopw [6] (fun i wr => ∃ j : Nat, j ≤ 8 ∧ i = .int .i64 j ∧ CW w bl (upto j firstC) (upto 0 keysC) wr) (fun i _ => 8 - (intOf i).toNat)
  case atStart => exact ⟨0, by omega, rfl, hw2⟩
  case round =>
    obtain ⟨j, hj, rfl, hr⟩ := hrel
    clear hw2
    by_cases hjl : j < 8
    · have hal : Try.prog.arrayLen 43 = 8 := by kernel_rfl
      have hal2 : Try.prog.arrayLen 42 = 80 := by kernel_rfl
      have hj80 : (j : Int) < 80 := by omega
      have hp := hr.l.at_ (i := j) (by omega)
      go_wp2_with fail
      refine (root2 _ _ wr (first_ok j hjl)).mono ?_
      rintro e w3 ⟨rfl, hb3⟩
      have h3 := hr.below hb3
      clear hr hb3 hp
      have hc := h3.f.at_ hjl
      have hf := h3.f.frozen j
      have K := h3.putF hjl (firstC j) rfl
      clear h3
      go_wp2_with fail
      go_roundw
      case rel => exact ⟨j + 1, by omega, by go_num, K⟩
      case measure => simp [intOf]; omega
    · obtain rfl : j = 8 := by omega
      clear hjl hj
      go_wp2_with fail
      obtain ⟨wo, rfl⟩ : ∃ wo : World, wo = w := ⟨_, rfl⟩
      go_loopw [16] (fun i wr => ∃ j : Nat, j ≤ 80 ∧ i = .int .i64 j ∧ CW wo bl (upto 8 firstC) (upto j keysC) wr) (fun i _ => 80 - (intOf i).toNat)
      case atStart => exact ⟨0, by omega, rfl, hr⟩
      case round =>
        obtain ⟨j, hj, rfl, h4⟩ := hrel
        clear hr
        by_cases hjl : j < 80
        · have hal2 : Try.prog.arrayLen 42 = 80 := by kernel_rfl
          have hp := h4.l.at_ (i := j) (by omega)
          go_wp2_with fail
          refine (root3 _ _ wr (keys_ok j hjl)).mono ?_
          rintro e w3 ⟨rfl, hb3⟩
          have h3 := h4.below hb3
          clear h4 hb3 hp
          have hc := h3.k.at_ hjl
          have hf := h3.k.frozen j
          have K := h3.putK hjl (keysC j) rfl
          clear h3
          go_wp2_with fail
          go_roundw
          case rel => (repeat apply Exists.intro); exact ⟨⟨j + 1, by omega, by go_num, K⟩, rfl⟩
          case measure => simp [intOf]; omega
        · obtain rfl : j = 80 := by omega
          clear hjl hj
          obtain ⟨w, rfl⟩ : ∃ w : World, w = wo := ⟨_, rfl⟩
          have hr := h4
          clear h4
          go_wp2_with fail
          have hf : Blk wr.drew w.heap.size 43 (r64 8 firstC) := hr.f.cast_ (row_ext fun i hi => by simp [upto, hi])
          have hk : Blk wr.drew (w.heap.size + 1) 42 (r64 80 keysC) := hr.k.cast_ (row_ext fun i hi => by simp [upto, hi])
          have hb := hr.o.drew
          have i8 : (Try.prog.info? 43).map (·.size) = some (r64 8 firstC).size := by rw [row_size]; kernel_rfl
          have i80 : (Try.prog.info? 42).map (·.size) = some (r64 80 keysC).size := by rw [row_size]; kernel_rfl
          have o8 : (r64 8 firstC).all (·.oneCell') = true := row_one fun _ => rfl
          have o80 : (r64 80 keysC).all (·.oneCell') = true := row_one fun _ => rfl
          clear hr
          refine wp_region_any (by kernel_rfl) ?_
          change wpAny _ _ _ _ _ _ _ wr.drew
          generalize wr.drew = w9 at hf hk hb ⊢
          refine wpAny_ready (rs := [0, 1]) (by kernel_rfl) (by simp) (AllReady.cons rfl (fun K hK => ?_) (AllReady.cons rfl (fun K hK => ?_) AllReady.nil))
          · refine step_load_row rfl _ _ rfl w.heap.size rfl _ _ _ hf Try.underlying43 rfl i8 (hK _ _ ?_)
            refine wpAny_ready (rs := [1, 2]) (by kernel_rfl) (by simp) (AllReady.cons rfl (fun K hK => ?_) (AllReady.cons rfl (fun K hK => ?_) AllReady.nil))
            · refine step_load_row rfl _ _ rfl (w.heap.size + 1) rfl _ _ _ hk Try.underlying42 rfl i80 (hK _ _ ?_)
              refine wpAny_ready (rs := [2]) (by kernel_rfl) (by simp) (AllReady.cons rfl (fun K hK => ?_) AllReady.nil)
              refine step_store_same rfl _ _ _ rfl w.heap.size _ rfl rfl _ hf i8 o8 (hK _ _ ?_)
              refine wpAny_ready (rs := [3]) (by kernel_rfl) (by simp) (AllReady.cons rfl (fun K hK => ?_) AllReady.nil)
              refine step_store_same rfl _ _ _ rfl (w.heap.size + 1) _ rfl rfl _ hk i80 o80 (hK _ _ ?_)
              refine wpAny_done (by kernel_rfl) ?_ _
              go_wp2_with fail
              exact bodyPost_ret (results_cell2_row rfl _ _ w.heap.size (w.heap.size + 1) _ _ _ _ _ _ rfl rfl hf hk Try.underlying43 rfl i8 Try.underlying42 rfl i80) rfl ⟨rfl, hb⟩
            · refine step_store_same rfl _ _ _ rfl w.heap.size _ rfl rfl _ hf i8 o8 (hK _ _ ?_)
              refine wpAny_ready (rs := [1]) (by kernel_rfl) (by simp) (AllReady.cons rfl (fun K hK => ?_) AllReady.nil)
              refine step_load_row rfl _ _ rfl (w.heap.size + 1) rfl _ _ _ hk Try.underlying42 rfl i80 (hK _ _ ?_)
              refine wpAny_ready (rs := [3]) (by kernel_rfl) (by simp) (AllReady.cons rfl (fun K hK => ?_) AllReady.nil)
              refine step_store_same rfl _ _ _ rfl (w.heap.size + 1) _ rfl rfl _ hk i80 o80 (hK _ _ ?_)
              refine wpAny_done (by kernel_rfl) ?_ _
              go_wp2_with fail
              exact bodyPost_ret (results_cell2_row rfl _ _ w.heap.size (w.heap.size + 1) _ _ _ _ _ _ rfl rfl hf hk Try.underlying43 rfl i8 Try.underlying42 rfl i80) rfl ⟨rfl, hb⟩
          · refine step_load_row rfl _ _ rfl (w.heap.size + 1) rfl _ _ _ hk Try.underlying42 rfl i80 (hK _ _ ?_)
            refine wpAny_ready (rs := [0]) (by kernel_rfl) (by simp) (AllReady.cons rfl (fun K hK => ?_) AllReady.nil)
            refine step_load_row rfl _ _ rfl w.heap.size rfl _ _ _ hf Try.underlying43 rfl i8 (hK _ _ ?_)
            refine wpAny_ready (rs := [2]) (by kernel_rfl) (by simp) (AllReady.cons rfl (fun K hK => ?_) AllReady.nil)
            refine step_store_same rfl _ _ _ rfl w.heap.size _ rfl rfl _ hf i8 o8 (hK _ _ ?_)
            refine wpAny_ready (rs := [3]) (by kernel_rfl) (by simp) (AllReady.cons rfl (fun K hK => ?_) AllReady.nil)
            refine step_store_same rfl _ _ _ rfl (w.heap.size + 1) _ rfl rfl _ hk i80 o80 (hK _ _ ?_)
            refine wpAny_done (by kernel_rfl) ?_ _
            go_wp2_with fail
            exact bodyPost_ret (results_cell2_row rfl _ _ w.heap.size (w.heap.size + 1) _ _ _ _ _ _ rfl rfl hf hk Try.underlying43 rfl i8 Try.underlying42 rfl i80) rfl ⟨rfl, hb⟩
end Go.Proofs.Ytmmijnacgolopaa
