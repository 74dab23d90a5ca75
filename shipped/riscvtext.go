package shipped

// riscv is the description of RV64, as desc.Print prints it: the registers that a value may be in. zero holds none, ra has
// where a call came from, sp, gp and tp are the frame's, the program's and the thread's own.
const riscv = `machine riscv {
  reg a0 64
  reg a1 64
  reg a2 64
  reg a3 64
  reg a4 64
  reg a5 64
  reg a6 64
  reg a7 64
  reg t0 64
  reg t1 64
  reg t2 64
  reg t3 64
  reg t4 64
  reg t5 64
  reg t6 64
  reg s0 64
  reg s1 64
  reg s2 64
  reg s3 64
  reg s4 64
  reg s5 64
  reg s6 64
  reg s7 64
  reg s8 64
  reg s9 64
  reg s10 64
  reg s11 64
  class g = a0 a1 a2 a3 a4 a5 a6 a7 t0 t1 t2 t3 t4 t5 t6 s0 s1 s2 s3 s4 s5 s6 s7 s8 s9 s10 s11
  op add g = g g
  op sub g = g g
  op mul g = g g
  op and g = g g
  op or g = g g
  op xor g = g g
  op shl g = g g
  op shr g = g g
  op div g = g g
  op rem g = g g
  op lt g = g g
  op eq g = g g
  op not g = g
  args a0 a1 a2 a3 a4 a5 a6 a7
  result a0
  saved s0 s1 s2 s3 s4 s5 s6 s7 s8 s9 s10 s11
  slots 1000
}
`
