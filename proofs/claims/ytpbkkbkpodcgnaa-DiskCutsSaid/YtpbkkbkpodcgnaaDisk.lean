/- Package disk keeps its contracts. -/
import Derived.Test.YtpbkkbkpodcgnaaDkOps15
namespace Go.Proofs.Ytpbkkbkpodcgnaa
open Go.RowKit
set_option linter.unusedVariables false
set_option maxRecDepth 100000

theorem maxLen_str {nm : List UInt8} (h : nm.length ≤ maxLen) : nm.length ≤ maxLen := h
noncomputable def diskOk : DiskOk where
  Z _ := True
  keep _ _ := trivial
  D := Dk
  lt h := h.lt
  same h := h.same
  ok h := h.ok
  new q w _ h1 h2 := new_any q w h1 h2
  create nm _ h hn := create_any h nm hn
  remove nm _ h hn := remove_any h nm hn
  rename nm to _ h hn ht := rename_any h nm to hn ht
  write nm off A n c l _ h hn h1 h2 hB hF hnl hnc hn7 := write_any h nm off A n c l hn h1 h2 hB hF hnl hnc hn7
  cut nm n _ h hn h1 h2 := cutD_any h nm n hn h1 h2
  sync nm _ h hn := sync_any h nm hn
  read nm off n _ h hn h1 h2 h3 h4 := read_any h nm off n hn h1 h2 h3 h4
  size nm _ h hn := size_any h nm hn
  names _ h hl := names_any h hl
  used _ h := used_any h
  quota n _ h h1 h2 := quota_any h n h1 h2
  arm n _ h h1 h2 := arm_any h n h1 h2
  dead _ h := (dead_any h)
  loose _ h := loose_any h
  on A n c l _ h hA hF hnl hnc hn7 := on_any h A n c l hA hF hnl hnc hn7
  flip nm i m _ h hn h1 h2 := flip_any h nm i m hn h1 h2
  files _ h hl := files_any h hl
end Go.Proofs.Ytpbkkbkpodcgnaa
